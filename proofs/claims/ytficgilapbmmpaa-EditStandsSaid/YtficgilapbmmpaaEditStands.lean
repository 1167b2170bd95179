/-
  The walk of EditStands: for any text and any edits it returns true, and nothing that was there before is written.
-/
import Derived.Test.YtficgilapbmmpaaStandsA
import Derived.Test.YtficgilapbmmpaaStandsB
namespace Go.Proofs.Ytficgilapbmmpaa
open Go.RowKit
set_option linter.unusedVariables false

theorem few_true (p : Option Addr) (n cap : Nat) (l : List Ed) (b : Bool) (hb : fewB l = b) (w : World) (h : EditsIn w p n cap l) (hm : n ≤ 9223372036854775807) :
    Calls Try.prog 9 #[.slice p n cap] w fun e w' => e = .returned (.bool b) ∧ w = w' := by
  refine (few_any p n cap l w h hm).mono ?_
  rintro e w' ⟨rfl, rfl⟩
  exact ⟨ret_bool hb, rfl⟩

set_option maxRecDepth 100000 in
theorem editStands_long (s : ByteArray) (p : Option Addr) (n cap : Nat) (w : World) (hs : s.size ≤ 9223372036854775807) (h : 2000 < s.size) :
    Calls Try.prog 6 #[.string s, .slice p n cap] w fun e w' => e = .returned (.bool true) ∧ Below w.heap.size w w' := by
  go_enter Try.func6, Try.ntmps6
  go_wp2_with (go_at_call 10; refine (alive_any _).mono ?_; rintro e w1 ⟨rfl, hb⟩)
  go_ret
  exact ⟨rfl, hb⟩

set_option maxRecDepth 100000 in
theorem editStands_many (s : ByteArray) (p : Option Addr) (n cap : Nat) (l : List Ed) (w : World) (hin : EditsIn w p n cap l) (hn : n ≤ 9223372036854775807) (h : s.size ≤ 2000) (hf : fewB l = false) :
    Calls Try.prog 6 #[.string s, .slice p n cap] w fun e w' => e = .returned (.bool true) ∧ Below w.heap.size w w' := by
  have HF := few_true p n cap l false hf w hin hn
  clear hf hin
  go_enter Try.func6, Try.ntmps6
  go_wp2_with (first | (go_at_call 9; refine HF.mono ?_; rintro e w1 ⟨rfl, rfl⟩) | (go_at_call 10; refine (alive_any _).mono ?_; rintro e w1 ⟨rfl, hb⟩))
  go_ret
  exact ⟨rfl, hb⟩

set_option maxRecDepth 100000 in
set_option maxHeartbeats 1000000 in
theorem editStands_bad (s : ByteArray) (p : Option Addr) (n cap : Nat) (l : List Ed) (w : World) (hin : EditsIn w p n cap l) (h : s.size ≤ 2000) (hf : fewB l = true) (hbad : checkN s.size l ≠ 0) :
    Calls Try.prog 6 #[.string s, .slice p n cap] w fun e w' => e = .returned (.bool true) ∧ Below w.heap.size w w' := by
  have hn : n ≤ 60 := by rw [hin.1]; exact (bytes_of_few hf).1
  have HF := few_true p n cap l true hf w hin (by omega)
  have HA := apply_bad s p n cap l w hin hn (by omega) hbad
  have HB := fun w1 (h : EditsIn w1 p n cap l) => kept_bad s.size p n cap l w1 h hn hbad
  have hne : (checkN s.size l == 0) = false := by rw [beq_eq_false_iff_ne]; exact hbad
  have hne2 : (checkN s.size l != 0) = true := by rw [bne, hne]; rfl
  clear hf
  generalize checkN s.size l = c at *
  have HI := Lib.hid hin
  clear hin
  go_enter Try.func6, Try.ntmps6
  go_wp2_with fail
  refine HF.mono ?_
  rintro e w1 ⟨rfl, rfl⟩
  go_wp2_with fail
  refine HA.mono ?_
  rintro e w1 ⟨rfl, hb1⟩
  go_wp2_with fail
  refine (HB _ (HI.out.step hb1)).mono ?_
  rintro e w2 ⟨rfl, hb2⟩
  have hz1 := hb1.size
  have hz2 := hb2.size
  clear HF HA HB
  go_wp2_with (first | (go_at_call 13; refine (no_any _ _).mono ?_; rintro e w3 ⟨rfl, rfl⟩) | (go_at_call 10; refine (alive_any _).mono ?_; rintro e w4 ⟨rfl, hb4⟩))
  go_ret
  exact ⟨rfl, (hb1.trans (hb2.mono hz1)).trans (hb4.mono (by omega))⟩

theorem editStands_ok (s : ByteArray) (p : Option Addr) (n cap : Nat) (l : List Ed) (w : World) (hin : EditsIn w p n cap l) (h : s.size ≤ 2000) (hf : fewB l = true) (hok : checkN s.size l = 0) :
    Calls Try.prog 6 #[.string s, .slice p n cap] w fun e w' => e = .returned (.bool true) ∧ Below w.heap.size w w' := by
  obtain ⟨hl60, hby⟩ := bytes_of_few hf
  have hn : n = l.length := hin.1
  rw [← size_is s] at hok
  obtain ⟨xs, last, hs, hl, hg⟩ := segs_of hok
  subst hn
  have HF := few_true p l.length cap l true hf w hin (by omega)
  subst hl
  have hby' := hby
  have hlx := edits_length xs 0
  rw [bytes_edits] at hby'
  have ho : (orig xs ++ last).length = s.size := by rw [← hs, size_is]
  have hm := made_length xs
  have htz : (⟨(made xs ++ last).toArray⟩ : ByteArray).size = (made xs ++ last).length := by show (made xs ++ last).toArray.size = _; rw [List.size_toArray]
  have hm2 : (made xs ++ last).length ≤ 4000 := by simp at ho ⊢; omega
  have HA := apply_ok xs last s hs hg (by omega) (by unfold ins; omega) p _ cap w hin (by omega)
  have HK : ∀ w1, Below w.heap.size w w1 → Calls Try.prog 19 #[.int .i64 s.size, .slice p (edits 0 xs).length cap] w1 fun e w' => KeptPost w1 (pairsOf (told xs s.size)) (placesOf (told xs s.size)) e w' := fun w1 hb => by
    have := kept_ok xs last s.size ho.symm hg (by omega) (by unfold ins; omega) p _ cap w1 (hin.step hb) (by omega)
    rw [told_pairs, told_places] at this
    exact this
  have hrow := row_told xs last
  have htot := total_told xs last
  have htl := told_length xs s.size
  rw [ho] at hrow htot
  have hsum : total (told xs s.size) + bytes (edits 0 xs) = (⟨(made xs ++ last).toArray⟩ : ByteArray).size := by rw [htz, bytes_edits]; exact htot
  rw [← hs] at hrow
  by_cases hR : 0 < (told xs s.size).length
  · exact stands_some s ⟨(made xs ++ last).toArray⟩ (edits 0 xs) p cap w (told xs s.size) hin hl60 h (by omega) hby hR (by omega) hrow hsum HF HA HK
  · have hR0 : told xs s.size = [] := List.length_eq_zero_iff.1 (by omega)
    rw [hR0] at HK hsum
    exact stands_zero s ⟨(made xs ++ last).toArray⟩ (edits 0 xs) p cap w hin hl60 h (by omega) hby (by simpa [total] using hsum) HF HA HK

theorem editStands_walk (s : ByteArray) (p : Option Addr) (n cap : Nat) (l : List Ed) (w : World) (hs : s.size ≤ 9223372036854775807) (hn : n ≤ 9223372036854775807) (hin : EditsIn w p n cap l) :
    Calls Try.prog 6 #[.string s, .slice p n cap] w fun e w' => e = .returned (.bool true) ∧ Below w.heap.size w w' := by
  by_cases h1 : 2000 < s.size
  · exact editStands_long s p n cap w hs h1
  · by_cases h2 : fewB l = true
    · by_cases h3 : checkN s.size l = 0
      · exact editStands_ok s p n cap l w hin (by omega) h2 h3
      · exact editStands_bad s p n cap l w hin (by omega) h2 h3
    · exact editStands_many s p n cap l w hin hn (by omega) (by simpa using h2)
end Go.Proofs.Ytficgilapbmmpaa
