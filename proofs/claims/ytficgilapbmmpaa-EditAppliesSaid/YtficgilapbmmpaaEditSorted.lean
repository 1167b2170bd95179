/-
  The walk of EditSorted: for any text and any edits it returns true, and nothing that was there before is written.
-/
import Derived.Test.YtficgilapbmmpaaAhead
import Derived.Test.YtficgilapbmmpaaEditKeeps
import Derived.Test.YtficgilapbmmpaaSame
import Derived.Test.YtficgilapbmmpaaCheck
import Derived.Test.YtficgilapbmmpaaRefApply
namespace Go.Proofs.Ytficgilapbmmpaa
open Go.RowKit
set_option linter.unusedVariables false

/-- How often an edit is one of a list. -/
def cntE (x : Ed) : List Ed → Nat
  | [] => 0
  | y :: r => (bif decide (y = x) then 1 else 0) + cntE x r
theorem cntE_append (x : Ed) (l m : List Ed) : cntE x (l ++ m) = cntE x l + cntE x m := by
  induction l with
  | nil => simp [cntE]
  | cons y r ih => simp [cntE, ih]; omega
theorem cntE_take (x : Ed) (l : List Ed) (j : Nat) (h : j < l.length) : cntE x (l.take (j + 1)) = cntE x (l.take j) + (bif decide (l[j] = x) then 1 else 0) := by
  rw [List.take_succ_eq_append_getElem h, cntE_append]; simp [cntE]
theorem cntE_yes {x : Ed} {l : List Ed} {j : Nat} (h : j < l.length) (e : l[j] = x) : cntE x (l.take (j + 1)) = cntE x (l.take j) + 1 := by
  rw [cntE_take x l j h]; simp [e]
theorem cntE_no {x : Ed} {l : List Ed} {j : Nat} (h : j < l.length) (e : ¬ l[j] = x) : cntE x (l.take (j + 1)) = cntE x (l.take j) := by
  rw [cntE_take x l j h]; simp [e]
theorem cntE_le (x : Ed) (l : List Ed) : cntE x l ≤ l.length := by
  induction l with
  | nil => simp [cntE]
  | cons y r ih => simp only [cntE, List.length_cons]; cases decide (y = x) <;> simp <;> omega
theorem cntE_ins1 (x y : Ed) : ∀ S : List Ed, cntE x (ins1 y S) = (bif decide (y = x) then 1 else 0) + cntE x S
  | [] => rfl
  | z :: r => by
    simp only [ins1]
    split
    · simp only [cntE, cntE_ins1 x y r]; omega
    · rfl
theorem cntE_ssort (x : Ed) : ∀ S : List Ed, cntE x (ssort S) = cntE x S
  | [] => rfl
  | y :: r => by simp only [ssort, cntE_ins1, cntE, cntE_ssort x r]

theorem text_small {l : List Ed} (h : bytes l ≤ 2000) : ∀ x ∈ l, x.t.size ≤ 2000 := by
  induction l with
  | nil => intro x hx; simp at hx
  | cons y r ih =>
    intro x hx
    simp only [bytes] at h
    rcases List.mem_cons.1 hx with rfl | hx
    · omega
    · exact ih (by omega) x hx

theorem order_of_check : ∀ {l : List Ed}, (∀ x ∈ l, x.a ≤ x.e) → apartB l = true → InOrder l
  | [], _, _ => trivial
  | [_], _, _ => ⟨fun y h => by simp at h, trivial⟩
  | x :: y :: r, h1, h2 => by
    simp only [apartB, Bool.and_eq_true, decide_eq_true_eq] at h2
    have ih := order_of_check (l := y :: r) (fun z hz => h1 z (by simp [hz])) h2.2
    have hx := h1 x (by simp)
    have hy := h1 y (by simp)
    refine ⟨fun z hz => ?_, ih⟩
    have hxy : ¬ ltE y x := by unfold ltE; omega
    rcases List.mem_cons.1 hz with rfl | hz
    · exact hxy
    · exact nlt_trans hxy (ih.1 z hz)
theorem ssort_of_check {n : Int} {l : List Ed} (h : checkN n l = 0) : ssort l = l := by
  refine ssort_fix (order_of_check ?_ ?_)
  · intro x hx
    obtain ⟨i, hi, rfl⟩ := List.getElem_of_mem hx
    exact ((checkN_zero h).2.1 i hi).2.1
  · exact (apartB_iff l).2 (checkN_zero h).2.2
theorem order_next : ∀ {l : List Ed}, InOrder l → ∀ i, (h : i + 1 < l.length) → ¬ ltE l[i + 1] l[i]
  | x :: r, ⟨h1, h2⟩, 0, h => h1 _ (by simp)
  | x :: r, ⟨h1, h2⟩, i + 1, h => by
    have := order_next h2 i (by simpa using h)
    simpa using this

theorem sorted_len (l d : List Ed) (b off cap n : Nat) (w : World) (hn : d.length = n) (hc : EditsAt w b off d) (hb : b < w.heap.size) (hcap : n ≤ cap) (hm : n ≤ 60) (hl : 0 < n) (ht : ∀ x ∈ d, x.t.size ≤ 2000) (hd : ssort d = l) :
    Calls Try.prog 17 #[.slice (some ⟨b, off, none⟩) n cap] w fun e w' => ∃ g c, e = .returned (.slice (some ⟨g, 0, none⟩) n c) ∧ n ≤ c ∧ w.heap.size ≤ g ∧ g < w'.heap.size ∧ EditsAt w' g 0 l ∧ Below w.heap.size w w' := by
  subst hn hd
  refine (sorted_some d b off cap w hc hb hcap hm hl (fun i hi => by have := ht _ (List.getElem_mem hi); omega)).mono ?_
  rintro e w' ⟨g, c, rfl, h1, h2, h3, h4⟩
  have hgl := h3.lt
  obtain ⟨cur, _, _, hs⟩ := h3
  exact ⟨g, c, rfl, h1, h2, hgl, hs, h4⟩

set_option maxRecDepth 100000 in
theorem editSorted_long (s : ByteArray) (p : Option Addr) (n cap : Nat) (w : World) (hs : s.size ≤ 9223372036854775807) (h : 400 < s.size) :
    Calls Try.prog 8 #[.string s, .slice p n cap] w fun e w' => e = .returned (.bool true) ∧ Below w.heap.size w w' := by
  go_enter Try.func8, Try.ntmps8
  go_wp2_with (go_at_call 10; refine (alive_any _).mono ?_; rintro e w1 ⟨rfl, hb⟩)
  go_ret
  exact ⟨rfl, hb⟩

set_option maxRecDepth 100000 in
theorem editSorted_many (s : ByteArray) (p : Option Addr) (n cap : Nat) (l : List Ed) (w : World) (hin : EditsIn w p n cap l) (hn : n ≤ 9223372036854775807) (h : s.size ≤ 400) (hf : fewB l = false) :
    Calls Try.prog 8 #[.string s, .slice p n cap] w fun e w' => e = .returned (.bool true) ∧ Below w.heap.size w w' := by
  have HF := few_eq p n cap l false hf w hin hn
  clear hf hin
  go_enter Try.func8, Try.ntmps8
  go_wp2_with (first | (go_at_call 9; refine HF.mono ?_; rintro e w1 ⟨rfl, rfl⟩) | (go_at_call 10; refine (alive_any _).mono ?_; rintro e w1 ⟨rfl, hb⟩))
  go_ret
  exact ⟨rfl, hb⟩

set_option maxRecDepth 100000 in
set_option maxHeartbeats 1000000 in
theorem editSorted_none (s : ByteArray) (p : Option Addr) (cap : Nat) (w : World) (h : s.size ≤ 400) :
    Calls Try.prog 8 #[.string s, .slice p 0 cap] w fun e w' => e = .returned (.bool true) ∧ Below w.heap.size w w' := by
  have hck : checkN s.size [] = 0 := checkN_ok (by omega) (fun i hi => absurd hi (by simp)) (fun i hi => absurd hi (by simp))
  have HC : ∀ w1, Calls Try.prog 14 #[.int .i64 s.size, .slice p 0 cap] w1 fun e w' => e = .returned (.int .i64 0) ∧ Below w1.heap.size w1 w' := fun w1 => by
    refine (check_none s.size p cap w1).mono ?_
    rintro e w' ⟨rfl, hb⟩
    exact ⟨ret_int hck, hb⟩
  clear hck
  go_enter Try.func8, Try.ntmps8
  go_wp2_with fail
  refine (few_none p cap w).mono ?_
  rintro e w0 ⟨rfl, rfl⟩
  go_wp2_with fail
  refine (sorted_none p cap w).mono ?_
  rintro e w1 ⟨q, c, rfl, hb1⟩
  go_wp2_with fail
  refine (sorted_none q c w1).mono ?_
  rintro e w2 ⟨q2, c2, rfl, hb2⟩
  go_wp2_with fail
  refine (same_none q2 q c2 c w2).mono ?_
  rintro e w3 ⟨rfl, hb3⟩
  have hz1 := hb1.size
  have hz2 := hb2.size
  have hz3 := hb3.size
  go_wp2_with fail
  refine wp_loop_rounds 1 ?_
  rw [rounds_succ]
  go_wp2_with fail
  refine wp_loop_rounds 1 ?_
  rw [rounds_succ]
  go_wp2_with fail
  refine (HC w3).mono ?_
  rintro e w4 ⟨rfl, hb4⟩
  have hz4 := hb4.size
  go_wp2_with fail
  refine (same_none q p c cap w4).mono ?_
  rintro e w5 ⟨rfl, hb5⟩
  have hz5 := hb5.size
  go_wp2_with (go_at_call 10; refine (alive_any _).mono ?_; rintro e w6 ⟨rfl, hb6⟩)
  go_ret
  exact ⟨rfl, ((((hb1.trans (hb2.mono hz1)).trans (hb3.mono (by omega))).trans (hb4.mono (by omega))).trans (hb5.mono (by omega))).trans (hb6.mono (by omega))⟩
end Go.Proofs.Ytficgilapbmmpaa
