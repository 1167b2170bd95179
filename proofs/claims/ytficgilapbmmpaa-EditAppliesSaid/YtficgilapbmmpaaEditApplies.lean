/-
  The walk of EditApplies.
-/
import Derived.Test.YtficgilapbmmpaaRefSorted
import Derived.Test.YtficgilapbmmpaaRefApplyB
import Derived.Test.YtficgilapbmmpaaRefCheck
import Derived.Test.YtficgilapbmmpaaSame
namespace Go.Proofs.Ytficgilapbmmpaa
open Go.RowKit
set_option linter.unusedVariables false

theorem refSorted_none (p : Option Addr) (c : Nat) (w : World) :
    Calls Try.prog 18 #[.slice p 0 c] w fun e w' => e = .returned (.slice none 0 0) ∧ w = w' := by
  go_enter Try.func18, Try.ntmps18
  go_wp2
  refine wp_loop_rounds 1 ?_
  rw [rounds_succ]
  go_wp2
  go_ret
  exact ⟨rfl, rfl⟩
/-- The document's Sorted: ssort. -/
theorem refSorted_any (p : Option Addr) (n cap : Nat) (l : List Ed) (w : World) (h : EditsIn w p n cap l) (hm : n ≤ 60) :
    Calls Try.prog 18 #[.slice p n cap] w fun e w' => ∃ q c, e = .returned (.slice q n c) ∧ EditsIn w' q n c (ssort l) ∧ Below w.heap.size w w' := by
  obtain ⟨hn, h0 | ⟨b, off, rfl, hc, hb, hat⟩⟩ := h
  · subst h0
    have : l = [] := List.length_eq_zero_iff.1 hn.symm
    subst this
    refine (refSorted_none p cap w).mono ?_
    rintro e w' ⟨rfl, rfl⟩
    exact ⟨none, 0, rfl, ⟨rfl, .inl rfl⟩, Below.refl _ _⟩
  · refine (refSorted_some l b off cap n w hat hb hc hm hn.symm).mono ?_
    rintro e w' ⟨v', rfl, hown, hbl⟩
    obtain ⟨q, d, rfl, hin⟩ := ed_of_row hown
    rw [ssort_length, ← hn] at hin ⊢
    exact ⟨q, d, rfl, hin, hbl⟩

theorem apply_pair (s : ByteArray) (hs : s.size ≤ 400) (p : Option Addr) (n cap : Nat) (l : List Ed) (hf : fewB l = true) (hn : n = l.length) :
    ∃ u : ByteArray, (∀ w, EditsIn w p n cap l → Calls Try.prog 11 #[.string s, .slice p n cap] w fun e w' => e = .returned (.tuple #[.string u, .int .i64 (checkN s.size l)]) ∧ Below w.heap.size w w') ∧
      (∀ w, EditsIn w p n cap l → Calls Try.prog 12 #[.string s, .slice p n cap] w fun e w' => e = .returned (.tuple #[.string u, .int .i64 (checkN s.size l)]) ∧ Below w.heap.size w w') := by
  obtain ⟨hl, hby⟩ := bytes_of_few hf
  have hn60 : n ≤ 60 := by omega
  by_cases hok : checkN s.size l = 0
  · have hok' := hok
    have hsl := str_len s
    rw [← hsl] at hok'
    obtain ⟨xs, last, hs', hx, hg⟩ := segs_of hok'
    have hM : goOn l 0 s.data.toList = made xs ++ last := by rw [hs', hx]; exact goOn_segs xs last 0 0 hg
    have hby' := hby
    rw [hx, bytes_edits] at hby'
    have hml := made_length xs
    have ho : (orig xs ++ last).length ≤ 400 := by rw [← hs', hsl]; exact hs
    have hm2 : (made xs ++ last).length ≤ 4000 := by simp at ho ⊢; omega
    refine ⟨⟨(made xs ++ last).toArray⟩, fun w h => ?_, fun w h => ?_⟩
    · rw [hok]
      rw [hx] at h
      exact apply_ok xs last s hs' hg (by omega) (by unfold ins; omega) p n cap w h hn60
    · rw [hok]
      subst hn
      exact refApply_yes s p cap l w _ h hn60 (by omega) hok hM hm2 hby
  · refine ⟨⟨#[]⟩, fun w h => ?_, fun w h => ?_⟩
    · exact apply_bad s p n cap l w h hn60 (by omega) hok
    · exact refApply_bad s p n cap l w h hn60 (by omega) hok

theorem few_b (p : Option Addr) (n cap : Nat) (l : List Ed) (b : Bool) (hb : fewB l = b) (w : World) (h : EditsIn w p n cap l) (hm : n ≤ 9223372036854775807) :
    Calls Try.prog 9 #[.slice p n cap] w fun e w' => e = .returned (.bool b) ∧ w = w' := by
  refine (few_any p n cap l w h hm).mono ?_
  rintro e w' ⟨rfl, rfl⟩
  exact ⟨ret_bool hb, rfl⟩
theorem editApplies_long (s : ByteArray) (p : Option Addr) (n cap : Nat) (i : Int) (w : World) (hs : s.size ≤ 9223372036854775807) (h : 400 < s.size) :
    Calls Try.prog 3 #[.string s, .slice p n cap, .int .i64 i] w fun e w' => e = .returned (.bool true) ∧ Below w.heap.size w w' := by
  go_enter Try.func3, Try.ntmps3
  go_wp2_with (go_at_call 10; refine (alive_any _).mono ?_; rintro e w1 ⟨rfl, hb⟩)
  go_ret
  exact ⟨rfl, hb⟩
theorem editApplies_many (s : ByteArray) (p : Option Addr) (n cap : Nat) (l : List Ed) (i : Int) (w : World) (hin : EditsIn w p n cap l) (hn : n ≤ 9223372036854775807) (h : s.size ≤ 400) (hf : fewB l = false) :
    Calls Try.prog 3 #[.string s, .slice p n cap, .int .i64 i] w fun e w' => e = .returned (.bool true) ∧ Below w.heap.size w w' := by
  have HF := few_b p n cap l false hf w hin hn
  clear hf hin
  go_enter Try.func3, Try.ntmps3
  go_wp2_with (first | (go_at_call 9; refine HF.mono ?_; rintro e w1 ⟨rfl, rfl⟩) | (go_at_call 10; refine (alive_any _).mono ?_; rintro e w1 ⟨rfl, hb⟩))
  go_ret
  exact ⟨rfl, hb⟩

set_option maxRecDepth 100000 in
set_option maxHeartbeats 4000000 in
theorem editApplies_some (s u : ByteArray) (p : Option Addr) (n cap : Nat) (l : List Ed) (i : Int) (w : World) (c d : Int) (hin : EditsIn w p n cap l) (hn : n ≤ 60) (h : s.size ≤ 400) (hf : fewB l = true)
    (HA : ∀ w, EditsIn w p n cap l → Calls Try.prog 11 #[.string s, .slice p n cap] w fun e w' => e = .returned (.tuple #[.string u, .int .i64 c]) ∧ Below w.heap.size w w')
    (HB : ∀ w, EditsIn w p n cap l → Calls Try.prog 12 #[.string s, .slice p n cap] w fun e w' => e = .returned (.tuple #[.string u, .int .i64 c]) ∧ Below w.heap.size w w')
    (HC : ∀ w, EditsIn w p n cap l → Calls Try.prog 14 #[.int .i64 i, .slice p n cap] w fun e w' => e = .returned (.int .i64 d) ∧ Below w.heap.size w w')
    (HD : ∀ w, EditsIn w p n cap l → Calls Try.prog 15 #[.int .i64 i, .slice p n cap] w fun e w' => e = .returned (.int .i64 d) ∧ Below w.heap.size w w') :
    Calls Try.prog 3 #[.string s, .slice p n cap, .int .i64 i] w fun e w' => e = .returned (.bool true) ∧ Below w.heap.size w w' := by
  have HF := few_b p n cap l true hf w hin (by omega)
  have htx := text_small (bytes_of_few hf).2
  have HTX := Lib.hid (fun j (hj : j < l.length) => (Nat.le_trans (htx l[j] (List.getElem_mem hj)) (by omega) : l[j].t.size ≤ 100000))
  have HI := Lib.hid hin
  have HAH := Lib.hid HA
  have HBH := Lib.hid HB
  have HCH := Lib.hid HC
  have HDH := Lib.hid HD
  clear hf hin htx HA HB HC HD
  go_enter Try.func3, Try.ntmps3
  go_wp2_with fail
  refine HF.mono ?_
  rintro e w0 ⟨rfl, rfl⟩
  clear HF
  go_wp2_with fail
  refine (HAH.out _ HI.out).mono ?_
  rintro e w1 ⟨rfl, hb1⟩
  have I1 := Lib.hid (HI.out.step hb1)
  have hz1 := hb1.size
  have B1 := Lib.hid hb1
  clear hb1
  go_wp2_with fail
  refine (HBH.out _ I1.out).mono ?_
  rintro e w2 ⟨rfl, hb2⟩
  have I2 := Lib.hid (I1.out.step hb2)
  have hz2 := hb2.size
  have B2 := Lib.hid (B1.out.trans (hb2.mono hz1))
  clear hb2
  go_wp2_with (go_at_call 13; refine (no_any _ _).mono ?_; rintro e w7 ⟨rfl, rfl⟩)
  refine (HCH.out _ I2.out).mono ?_
  rintro e w3 ⟨rfl, hb3⟩
  have I3 := Lib.hid (I2.out.step hb3)
  have hz3 := hb3.size
  have B3 := Lib.hid (B2.out.trans (hb3.mono (by omega)))
  clear hb3
  go_wp2_with (go_at_call 13; refine (no_any _ _).mono ?_; rintro e w7 ⟨rfl, rfl⟩)
  refine (HDH.out _ I3.out).mono ?_
  rintro e w4 ⟨rfl, hb4⟩
  have I4 := Lib.hid (I3.out.step hb4)
  have hz4 := hb4.size
  have B4 := Lib.hid (B3.out.trans (hb4.mono (by omega)))
  clear hb4
  go_wp2_with fail
  refine (sorted_any p n cap l w4 I4.out hn HTX.out).mono ?_
  rintro e w5 ⟨q1, c1, rfl, hq1, hb5⟩
  have I5 := Lib.hid (I4.out.step hb5)
  have hz5 := hb5.size
  have B5 := Lib.hid (B4.out.trans (hb5.mono (by omega)))
  have Q5 := Lib.hid hq1
  clear hb5 hq1
  go_wp2_with fail
  refine (refSorted_any p n cap l w5 I5.out hn).mono ?_
  rintro e w6 ⟨q2, c2, rfl, hq2, hb6⟩
  have hz6 := hb6.size
  have B6 := Lib.hid (B5.out.trans (hb6.mono (by omega)))
  have Q6 := Lib.hid (Q5.out.step hb6)
  have R6 := Lib.hid hq2
  clear hb6 hq2
  go_wp2_with fail
  refine (same_any q1 q2 n n c1 c2 (ssort l) (ssort l) w6 Q6.out R6.out (by omega)).mono ?_
  rintro e w7 ⟨rfl, hb7⟩
  have hdd : decide (ssort l = ssort l) = true := by simp
  rw [hdd]
  have hz7 := hb7.size
  have B7 := Lib.hid (B6.out.trans (hb7.mono (by omega)))
  clear hb7 hdd
  go_wp2_with (go_at_call 10; refine (alive_any _).mono ?_; rintro e w8 ⟨rfl, hb8⟩)
  go_ret
  exact ⟨rfl, B7.out.trans (hb8.mono (by omega))⟩

theorem editApplies_walk (s : ByteArray) (p : Option Addr) (n cap : Nat) (l : List Ed) (i : Int) (w : World) (hs : s.size ≤ 9223372036854775807) (hn : n ≤ 9223372036854775807) (hin : EditsIn w p n cap l) (_ : (Lit.int .i64 i).wf = true) :
    Calls Try.prog 3 #[.string s, .slice p n cap, .int .i64 i] w fun e w' => e = .returned (.bool true) ∧ Below w.heap.size w w' := by
  by_cases h1 : 400 < s.size
  · exact editApplies_long s p n cap i w hs h1
  · by_cases h2 : fewB l = true
    · have hn60 : n ≤ 60 := by rw [hin.1]; exact (bytes_of_few h2).1
      obtain ⟨u, HA, HB⟩ := apply_pair s (by omega) p n cap l h2 hin.1
      exact editApplies_some s u p n cap l i w _ _ hin hn60 (by omega) h2 HA HB (fun w h => check_any i p n cap l w h hn60) (fun w h => refCheck_any i p n cap l w h hn60)
    · exact editApplies_many s p n cap l i w hin hn (by omega) (by simpa using h2)
end Go.Proofs.Ytficgilapbmmpaa
