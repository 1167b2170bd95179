/-
  Map, and the document's Map: both tell the same of any edits and any place.
-/
import Derived.Test.YtficgilapbmmpaaCount
namespace Go.Proofs.Ytficgilapbmmpaa
open Go.RowKit
set_option linter.unusedVariables false

/-- What both Maps tell. -/
def mapN (n i : Int) (l : List Ed) : Int × Bool := if checkN n l ≠ 0 ∨ i < 0 ∨ n ≤ i then (0, false) else mapL l 0 i
theorem mapN_no {n i : Int} {l : List Ed} (h : checkN n l ≠ 0 ∨ i < 0 ∨ n ≤ i) : mapN n i l = (0, false) := if_pos h
theorem mapN_yes {n i : Int} {l : List Ed} (h : checkN n l = 0) (h0 : 0 ≤ i) (h1 : i < n) : mapN n i l = mapL l 0 i := if_neg (by rintro (h2 | h2 | h2) <;> omega)

theorem check_is (f : FuncId) (n : Int) (p : Option Addr) (m cap : Nat) (l : List Ed) (c : Int) (hc : checkN n l = c) (w : World)
    (h : Calls Try.prog f #[.int .i64 n, .slice p m cap] w fun e w' => e = .returned (.int .i64 (checkN n l)) ∧ Below w.heap.size w w') :
    Calls Try.prog f #[.int .i64 n, .slice p m cap] w fun e w' => e = .returned (.int .i64 c) ∧ Below w.heap.size w w' := by
  refine h.mono ?_
  rintro e w' ⟨rfl, hb⟩
  exact ⟨ret_int hc, hb⟩

theorem map_bad (n i : Int) (p : Option Addr) (m cap : Nat) (l : List Ed) (w : World) (h : EditsIn w p m cap l) (hm : m ≤ 60) (hbad : checkN n l ≠ 0) :
    Calls Try.prog 21 #[.int .i64 n, .int .i64 i, .slice p m cap] w fun e w' => e = .returned (.tuple #[.int .i64 0, .bool false]) ∧ Below w.heap.size w w' := by
  have HC := check_any n p m cap l w h hm
  have hne : (checkN n l == 0) = false := by rw [beq_eq_false_iff_ne]; exact hbad
  have hne2 : (checkN n l != 0) = true := by rw [bne, hne]; rfl
  generalize checkN n l = c at *
  go_enter Try.func21, Try.ntmps21
  go_wp2_with (go_at_call 14; refine HC.mono ?_; rintro e w1 ⟨rfl, hb⟩)
  go_returns
  exact ⟨rfl, hb⟩
theorem map_out (n i : Int) (p : Option Addr) (m cap : Nat) (l : List Ed) (w : World) (h : EditsIn w p m cap l) (hm : m ≤ 60) (hok : checkN n l = 0) (hout : i < 0 ∨ n ≤ i) :
    Calls Try.prog 21 #[.int .i64 n, .int .i64 i, .slice p m cap] w fun e w' => e = .returned (.tuple #[.int .i64 0, .bool false]) ∧ Below w.heap.size w w' := by
  have HC := check_is 14 n p m cap l 0 hok w (check_any n p m cap l w h hm)
  clear hok
  by_cases h0 : i < 0
  · clear hout
    go_enter Try.func21, Try.ntmps21
    go_wp2_with (go_at_call 14; refine HC.mono ?_; rintro e w1 ⟨rfl, hb⟩)
    go_returns
    exact ⟨rfl, hb⟩
  · have h1 : n ≤ i := by omega
    clear hout
    go_enter Try.func21, Try.ntmps21
    go_wp2_with (go_at_call 14; refine HC.mono ?_; rintro e w1 ⟨rfl, hb⟩)
    go_returns
    exact ⟨rfl, hb⟩
theorem map_nil (n i : Int) (p : Option Addr) (cap : Nat) (w : World) (h0 : 0 ≤ i) (h1 : i < n) (hn : n ≤ 100000) :
    Calls Try.prog 21 #[.int .i64 n, .int .i64 i, .slice p 0 cap] w fun e w' => e = .returned (.tuple #[.int .i64 i, .bool true]) ∧ Below w.heap.size w w' := by
  have hok : checkN n [] = 0 := checkN_ok (by omega) (fun i hi => absurd hi (by simp)) (fun i hi => absurd hi (by simp))
  have HC := check_is 14 n p 0 cap [] 0 hok w (check_any n p 0 cap [] w ⟨rfl, .inl rfl⟩ (by omega))
  clear hok
  go_enter Try.func21, Try.ntmps21
  go_wp2_with (go_at_call 14; refine HC.mono ?_; rintro e w1 ⟨rfl, hb⟩)
  refine wp_loop_rounds 1 ?_
  rw [rounds_succ]
  go_wp2
  go_returns
  exact ⟨rfl, hb⟩

theorem segs_for {n : Int} {l : List Ed} (h : checkN n l = 0) : ∃ xs last, n = ((orig xs ++ last).length : Nat) ∧ l = edits 0 xs ∧ Gap 0 xs := by
  have h0 := (checkN_zero h).1
  obtain ⟨xs, last, h1, h2, h3⟩ := segs_of (S := List.replicate n.toNat 0) (l := l) (by rw [List.length_replicate, show ((n.toNat : Nat) : Int) = n from by omega]; exact h)
  exact ⟨xs, last, by rw [← h1, List.length_replicate]; omega, h2, h3⟩

theorem ret_pair2 {p q : Int × Bool} (h : p = q) : Ending.returned (.tuple #[.int .i64 p.1, .bool p.2]) = .returned (.tuple #[.int .i64 q.1, .bool q.2]) := by rw [h]

theorem map_any (n i : Int) (p : Option Addr) (m cap : Nat) (l : List Ed) (w : World) (h : EditsIn w p m cap l) (hf : fewB l = true) (hn : n ≤ 100000) :
    Calls Try.prog 21 #[.int .i64 n, .int .i64 i, .slice p m cap] w fun e w' => e = .returned (.tuple #[.int .i64 (mapN n i l).1, .bool (mapN n i l).2]) ∧ Below w.heap.size w w' := by
  obtain ⟨hl60, hby⟩ := bytes_of_few hf
  have hm : m ≤ 60 := by rw [h.1]; exact hl60
  by_cases hok : checkN n l = 0
  · by_cases hout : i < 0 ∨ n ≤ i
    · refine (map_out n i p m cap l w h hm hok hout).mono ?_
      rintro e w' ⟨rfl, hb⟩
      exact ⟨ret_pair (mapN_no (.inr hout)), hb⟩
    · have h0 : 0 ≤ i := by omega
      have h1 : i < n := by omega
      rw [mapN_yes hok h0 h1]
      obtain ⟨xs, last, hnn, hl, hg⟩ := segs_for hok
      subst hl
      rw [bytes_edits] at hby
      have hml := h.1
      rw [edits_length] at hml
      have hon : (orig xs).length ≤ n.toNat := by simp at hnn; omega
      rcases h.2 with hz | ⟨b, off, rfl, hc, hb, hat⟩
      · subst hz
        have hxs : xs = [] := List.length_eq_zero_iff.1 hml.symm
        subst hxs
        refine (map_nil n i p cap w h0 h1 hn).mono ?_
        rintro e w' ⟨rfl, hb⟩
        exact ⟨ret_pair (by simp [edits, mapL]), hb⟩
      · by_cases hx0 : 0 < xs.length
        · subst hml
          have := map_some xs last n.toNat i (by omega) hg (by omega) h0 (by omega) (fun j hj => by have := ins_take xs j hj; unfold ins at this; omega) b off cap w hat hb hc hm hx0
          rw [show ((n.toNat : Nat) : Int) = n from by omega] at this
          exact this
        · have hxs : xs = [] := List.length_eq_zero_iff.1 (by omega)
          subst hxs
          have : m = 0 := by simpa using hml
          subst this
          refine (map_nil n i _ cap w h0 h1 hn).mono ?_
          rintro e w' ⟨rfl, hb⟩
          exact ⟨ret_pair (by simp [edits, mapL]), hb⟩
  · refine (map_bad n i p m cap l w h hm hok).mono ?_
    rintro e w' ⟨rfl, hb⟩
    exact ⟨ret_pair (mapN_no (.inl hok)), hb⟩
end Go.Proofs.Ytficgilapbmmpaa
