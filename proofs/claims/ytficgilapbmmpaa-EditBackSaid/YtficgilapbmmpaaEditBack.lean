/-
  The walk of EditBack: for any text and any edits it returns true, and nothing that was there before is written.
-/
import Derived.Test.YtficgilapbmmpaaAlive
namespace Go.Proofs.Ytficgilapbmmpaa
open Go.RowKit
set_option linter.unusedVariables false

theorem editBack_long (s : ByteArray) (p : Option Addr) (n cap : Nat) (w : World) (hs : s.size ≤ 9223372036854775807) (h : 2000 < s.size) :
    Calls Try.prog 5 #[.string s, .slice p n cap] w fun e w' => e = .returned (.bool true) ∧ Below w.heap.size w w' := by
  go_enter Try.func5, Try.ntmps5
  go_wp2_with (go_at_call 10; refine (alive_any _).mono ?_; rintro e w1 ⟨rfl, hb⟩)
  go_ret
  exact ⟨rfl, hb⟩

theorem editBack_many (s : ByteArray) (p : Option Addr) (n cap : Nat) (l : List Ed) (w : World) (hin : EditsIn w p n cap l) (hn : n ≤ 9223372036854775807) (h : s.size ≤ 2000) (hf : fewB l = false) :
    Calls Try.prog 5 #[.string s, .slice p n cap] w fun e w' => e = .returned (.bool true) ∧ Below w.heap.size w w' := by
  have HF : Calls Try.prog 9 #[.slice p n cap] w fun e w' => e = .returned (.bool false) ∧ w = w' := by
    refine (few_any p n cap l w hin hn).mono ?_
    rintro e w' ⟨rfl, rfl⟩
    exact ⟨ret_bool hf, rfl⟩
  clear hf hin
  go_enter Try.func5, Try.ntmps5
  go_wp2_with (first | (go_at_call 9; refine HF.mono ?_; rintro e w1 ⟨rfl, rfl⟩) | (go_at_call 10; refine (alive_any _).mono ?_; rintro e w1 ⟨rfl, hb⟩))
  go_ret
  exact ⟨rfl, hb⟩

theorem editBack_bad (s : ByteArray) (p : Option Addr) (n cap : Nat) (l : List Ed) (w : World) (hin : EditsIn w p n cap l) (h : s.size ≤ 2000) (hf : fewB l = true) (hbad : checkN s.size l ≠ 0) :
    Calls Try.prog 5 #[.string s, .slice p n cap] w fun e w' => e = .returned (.bool true) ∧ Below w.heap.size w w' := by
  have hn : n ≤ 60 := by rw [hin.1]; exact (bytes_of_few hf).1
  have HF : Calls Try.prog 9 #[.slice p n cap] w fun e w' => e = .returned (.bool true) ∧ w = w' := by
    refine (few_any p n cap l w hin (by omega)).mono ?_
    rintro e w' ⟨rfl, rfl⟩
    exact ⟨ret_bool hf, rfl⟩
  have HA := apply_bad s p n cap l w hin hn (by omega) hbad
  have HB := fun w1 (h : EditsIn w1 p n cap l) => back_bad s p n cap l w1 h hn (by omega) hbad
  have hne : (checkN s.size l == 0) = false := by rw [beq_eq_false_iff_ne]; exact hbad
  have hne2 : (checkN s.size l != 0) = true := by rw [bne, hne]; rfl
  clear hf
  generalize checkN s.size l = c at *
  have HI := Lib.hid hin
  clear hin
  go_enter Try.func5, Try.ntmps5
  go_wp2_with (first | (go_at_call 9; refine HF.mono ?_; rintro e w1 ⟨rfl, rfl⟩) | (go_at_call 11; refine HA.mono ?_; rintro e w1 ⟨rfl, hb1⟩) | (go_at_call 25; refine (HB _ (HI.out.step hb1)).mono ?_; rintro e w2 ⟨rfl, hb2⟩) | (go_at_call 13; refine (no_any _ _).mono ?_; rintro e w3 ⟨rfl, rfl⟩) | (go_at_call 10; refine (alive_any _).mono ?_; rintro e w4 ⟨rfl, hb4⟩))
  go_ret
  refine ⟨rfl, ?_⟩
  have := hb1.size
  have := hb2.size
  exact (hb1.trans (hb2.mono (by omega))).trans (hb4.mono (by omega))

theorem editBack_ok (s : ByteArray) (p : Option Addr) (n cap : Nat) (l : List Ed) (w : World) (hin : EditsIn w p n cap l) (h : s.size ≤ 2000) (hf : fewB l = true) (hok : checkN s.size l = 0) :
    Calls Try.prog 5 #[.string s, .slice p n cap] w fun e w' => e = .returned (.bool true) ∧ Below w.heap.size w w' := by
  obtain ⟨hl60, hby⟩ := bytes_of_few hf
  have hn : n = l.length := hin.1
  have hlen : s.size = s.data.toList.length := by rw [Array.length_toList]; rfl
  rw [hlen] at hok
  obtain ⟨xs, last, hs, hl, hg⟩ := segs_of hok
  have HF : Calls Try.prog 9 #[.slice p n cap] w fun e w' => e = .returned (.bool true) ∧ w = w' := by
    refine (few_any p n cap l w hin (by omega)).mono ?_
    rintro e w' ⟨rfl, rfl⟩
    exact ⟨ret_bool hf, rfl⟩
  subst hl
  have hins : ins xs ≤ 2000 := by rw [bytes_edits] at hby; exact hby
  have hxs : n = xs.length := by rw [hn, edits_length]
  have ho : (orig xs ++ last).length = s.size := by rw [← hs, hlen]
  have hm := made_length xs
  have hm2 : (made xs ++ last).length ≤ 4000 := by simp at ho ⊢; unfold ins at hins; omega
  have HA := apply_ok xs last s hs hg (by omega) (by omega) p n cap w hin (by omega)
  have HB := fun w1 (h : EditsIn w1 p n cap (edits 0 xs)) => back_ok xs last s hs hg (by omega) (by omega) p n cap w1 h (by omega)
  have hst : (⟨(made (swap xs) ++ last).toArray⟩ : ByteArray) = s := by rw [made_swap, ← hs]
  have hsw : ins (swap xs) ≤ 2000 := by
    have : ∀ ys : List Seg, ins (swap ys) ≤ (orig ys).length := fun ys => by
      induction ys with
      | nil => simp [ins, swap]
      | cons y r ih => simp only [ins, swap, List.map_cons, List.sum_cons, orig, List.length_append] at *; omega
    have h2 := this xs
    simp at ho; omega
  have HC := fun w1 q c (h : EditsIn w1 q xs.length c (edits 0 (swap xs))) => apply_ok (swap xs) last ⟨(made xs ++ last).toArray⟩ (by rw [orig_swap]) (gap_swap xs hg) (by show (made xs ++ last).toArray.size ≤ _; rw [List.size_toArray]; omega) (by omega) q xs.length c w1 h (by omega)
  rw [hst] at HC
  have HI := Lib.hid hin
  clear hin hst hs hok hlen hn hf hby ho hm hm2 hsw hg hins
  subst hxs
  generalize (⟨(made xs ++ last).toArray⟩ : ByteArray) = t at *
  go_enter Try.func5, Try.ntmps5
  go_wp2_with (go_at_call 9; refine HF.mono ?_; rintro e w1 ⟨rfl, rfl⟩)
  refine HA.mono ?_
  rintro e w1 ⟨rfl, hb1⟩
  go_wp2_with fail
  refine (HB _ (HI.out.step hb1)).mono ?_
  rintro e w2 ⟨q, c, rfl, hb2, hbk⟩
  go_wp2_with (go_at_call 13; refine (no_any _ _).mono ?_; rintro e w3 ⟨rfl, rfl⟩)
  refine (HC _ _ _ hbk).mono ?_
  rintro e w5 ⟨rfl, hb5⟩
  clear hbk HA HB HC HF
  go_wp2_with (first | (go_at_call 13; refine (no_any _ _).mono ?_; rintro e w3 ⟨rfl, rfl⟩) | (go_at_call 10; refine (alive_any _).mono ?_; rintro e w4 ⟨rfl, hb4⟩))
  go_ret
  refine ⟨rfl, ?_⟩
  have := hb1.size
  have := hb2.size
  have := hb5.size
  exact ((hb1.trans (hb2.mono (by omega))).trans (hb5.mono (by omega))).trans (hb4.mono (by omega))

theorem editBack_walk (s : ByteArray) (p : Option Addr) (n cap : Nat) (l : List Ed) (w : World) (hs : s.size ≤ 9223372036854775807) (hn : n ≤ 9223372036854775807) (hin : EditsIn w p n cap l) :
    Calls Try.prog 5 #[.string s, .slice p n cap] w fun e w' => e = .returned (.bool true) ∧ Below w.heap.size w w' := by
  by_cases h1 : 2000 < s.size
  · exact editBack_long s p n cap w hs h1
  · by_cases h2 : fewB l = true
    · by_cases h3 : checkN s.size l = 0
      · exact editBack_ok s p n cap l w hin (by omega) h2 h3
      · exact editBack_bad s p n cap l w hin (by omega) h2 h3
    · exact editBack_many s p n cap l w hin hn (by omega) (by simpa using h2)
end Go.Proofs.Ytficgilapbmmpaa
