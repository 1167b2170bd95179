/-
  The chapter's example.
-/
import Derived.Test.YtcijjeflojaocaaLevel
import Derived.Test.YtcijjeflojaocaaRight
namespace Go.Proofs.Ytcijjeflojaocaa
open Go.RowKit
set_option linter.unusedVariables false
set_option linter.unusedSimpArgs false

/-- The example, its kids' and names' rows from block N on. -/
def exB (N : Nat) : Br :=
  .mk ⟨0, 0, 0, 9, none, 0, 0, [], some ⟨N + 2, 0, none⟩, 2, 2⟩
    [.mk ⟨0, 0, 1, 4, none, 0, 0, [], some ⟨N, 0, none⟩, 1, 1⟩ [.mk ⟨0, 0, 2, 3, none, 0, 0, [], none, 0, 0⟩ []],
     .mk ⟨0, 0, 5, 6, some ⟨N + 1, 0, none⟩, 1, 1, [5], none, 0, 0⟩ []]
abbrev exO1 : Obj := .cells #[.int .i64 0, .int .i64 0, .int .i64 2, .int .i64 3, .slice none 0 0, .slice none 0 0] 25
abbrev exO2 : Obj := .cells #[.int .i64 5] 3
abbrev exO3 (N : Nat) : Obj := .cells #[.int .i64 0, .int .i64 0, .int .i64 1, .int .i64 4, .slice none 0 0, .slice (some ⟨N, 0, none⟩) 1 1, .int .i64 0, .int .i64 0, .int .i64 5, .int .i64 6, .slice (some ⟨N + 1, 0, none⟩) 1 1, .slice none 0 0] 25
theorem exB_lies (w : World) (o : Obj) : (exB w.heap.size).Lies ((((w.alloc exO1).alloc exO2).alloc (exO3 w.heap.size)).alloc o) := by
  have z1 : (w.alloc exO1).heap.size = w.heap.size + 1 := by simp
  have z2 : ((w.alloc exO1).alloc exO2).heap.size = w.heap.size + 2 := by simp
  have z3 : (((w.alloc exO1).alloc exO2).alloc (exO3 w.heap.size)).heap.size = w.heap.size + 3 := by simp
  have k1 := heap_alloc_new w exO1
  have k2 := heap_alloc_new (w.alloc exO1) exO2
  have k3 := heap_alloc_new ((w.alloc exO1).alloc exO2) (exO3 w.heap.size)
  rw [z1] at k2
  rw [z2] at k3
  have m1 := (heap_alloc_old (r := w.heap.size) (((w.alloc exO1).alloc exO2).alloc (exO3 w.heap.size)) o (by omega)).trans ((heap_alloc_old (r := w.heap.size) ((w.alloc exO1).alloc exO2) (exO3 w.heap.size) (by omega)).trans ((heap_alloc_old (r := w.heap.size) (w.alloc exO1) exO2 (by omega)).trans k1))
  have m2 := (heap_alloc_old (r := w.heap.size + 1) (((w.alloc exO1).alloc exO2).alloc (exO3 w.heap.size)) o (by omega)).trans ((heap_alloc_old (r := w.heap.size + 1) ((w.alloc exO1).alloc exO2) (exO3 w.heap.size) (by omega)).trans k2)
  have m3 := (heap_alloc_old (r := w.heap.size + 2) (((w.alloc exO1).alloc exO2).alloc (exO3 w.heap.size)) o (by omega)).trans k3
  have zz : ((((w.alloc exO1).alloc exO2).alloc (exO3 w.heap.size)).alloc o).heap.size = w.heap.size + 4 := by simp
  generalize (((w.alloc exO1).alloc exO2).alloc (exO3 w.heap.size)).alloc o = W at *
  refine ⟨In.nil _ _ _ _, ⟨rfl, .inr ⟨_, _, rfl, by simp, by omega, ?_⟩⟩, ⟨In.nil _ _ _ _, ⟨rfl, .inr ⟨_, _, rfl, by simp, by omega, ?_⟩⟩, ⟨In.nil _ _ _ _, ⟨rfl, .inl rfl⟩, trivial⟩, trivial⟩, ⟨⟨rfl, .inr ⟨_, _, rfl, by simp, by omega, ?_⟩⟩, ⟨rfl, .inl rfl⟩, trivial⟩, trivial⟩
  · intro i hi
    have : i = 0 ∨ i = 1 := by simp at hi; omega
    rcases this with rfl | rfl
    · refine ⟨?_, ?_, ?_, ?_, ?_, ?_⟩ <;> (rw [Lib.cell_of_heap m3]; rfl)
    · refine ⟨?_, ?_, ?_, ?_, ?_, ?_⟩ <;> (rw [Lib.cell_of_heap m3]; rfl)
  · intro i hi
    have : i = 0 := by simp at hi; omega
    subst this
    refine ⟨?_, ?_, ?_, ?_, ?_, ?_⟩ <;> (rw [Lib.cell_of_heap m1]; rfl)
  · intro i hi
    have : i = 0 := by simp at hi; omega
    subst this
    rw [Lib.cell_of_heap m2]; rfl
theorem exB_fits (N : Nat) : (exB N).Fits := by simp [exB, Br.Fits, FitsAll]
theorem exB_size (N : Nat) : (exB N).size = 4 := rfl
theorem exB_right (N : Nat) : (exB N).right = true := rfl
theorem exB_kids (N : Nat) : offs 1 (exB N).ks = [1, 3] := rfl
theorem exB_level (N : Nat) : levels (kidsOf (exB N)) (seesOf (exB N) 2) 0 = [0] ∧ levels (kidsOf (exB N)) (seesOf (exB N) 2) 1 = [1] ∧ levels (kidsOf (exB N)) (seesOf (exB N) 2) 2 = [2] ∧ levels (kidsOf (exB N)) (seesOf (exB N) 2) 3 = [] := ⟨rfl, rfl, rfl, rfl⟩
theorem level_nil (kids : Nat → List Nat) (has : Nat → Bool) (d : Nat) (h : levels kids has d = []) : ∀ e, levels kids has (d + e) = [] := by
  intro e
  induction e with
  | zero => exact h
  | succ e ih => rw [← Nat.add_assoc]; simp [levels, ih]
/-- The example's bad branch. -/
def exR : Br := .mk ⟨0, 0, 2, 1, none, 0, 0, [], none, 0, 0⟩ []

theorem exB_at (N : Nat) : (exB N).knots.length = 4 := by rw [knots_length]; rfl
theorem ex_kids {T g c N : Nat} (w : World) (h : Arena w T g c (exB N).knots) : Calls Try.prog 15 #[.pointer (some ⟨T, 0, none⟩), .int .i64 0] w fun e w' => ∃ p c, e = .returned (.slice p 2 c) ∧ In mkI w' p 2 c [1, 3] ∧ Below w.heap.size w w' := by
  have hL := levels_of (exB N) 2 (by rw [exB_size]; omega)
  refine (kids_yes 0 w h (by rw [exB_at]; omega) [1, 3] (hL.chain 0 (by rw [exB_at]; omega)).1 (by simp)).mono ?_
  rintro e w' ⟨v, rfl, hown, hb⟩
  obtain ⟨p, c, rfl, hin⟩ := in_of_row (mk := mkI) (l := [1, 3]) (show w'.ownsRow w.heap.size 3 1 v 2 (([1, 3] : List Int).map mkI) from hown) rfl
  exact ⟨p, c, rfl, hin, hb⟩
theorem ex_deep {T g c N : Nat} (w : World) (h : Arena w T g c (exB N).knots) : Calls Try.prog 16 #[.pointer (some ⟨T, 0, none⟩), .int .i64 2] w fun e w' => e = .returned (.int .i64 3) ∧ w = w' :=
  deep_yes 2 w h (by rw [exB_at]; omega)
theorem ex_within {T g c N : Nat} (w : World) (h : Arena w T g c (exB N).knots) : Calls Try.prog 24 #[.pointer (some ⟨T, 0, none⟩), .int .i64 2] w fun e w' => e = .returned (.int .i64 2) ∧ Below w.heap.size w w' := by
  refine (within_yes 2 w h _ _ (levels_of (exB N) 2 (by rw [exB_size]; omega))).mono ?_
  obtain ⟨h0, h1, h2, h3⟩ := exB_level N
  rintro e w' ⟨hb, ⟨h4, _⟩ | ⟨_, d, h5, hne, rfl⟩⟩
  · have : seesOf (exB N) 2 0 = true := rfl
    rw [this] at h4; cases h4
  · refine ⟨?_, hb⟩
    have hd : d = 2 := by
      have : d ≠ 0 := fun e => by subst e; rw [h1] at h5; cases h5
      have : d ≠ 1 := fun e => by subst e; rw [h2] at h5; cases h5
      have : ¬ 3 ≤ d := fun h => hne (by obtain ⟨k, rfl⟩ := Nat.exists_eq_add_of_le h; exact level_nil _ _ 3 h3 k)
      omega
    subst hd
    rfl
theorem ex_names {T g c N : Nat} (w : World) (h : Arena w T g c (exB N).knots) : Calls Try.prog 14 #[.pointer (some ⟨T, 0, none⟩), .int .i64 3] w fun e w' => ∃ p c, e = .returned (.slice p 1 c) ∧ In mkI w' p 1 c [5] ∧ Below w.heap.size w w' := by
  refine (names_yes 3 w h (by rw [exB_at]; omega) (by show 1 * 8 ≤ _; omega)).mono ?_
  rintro e w' ⟨p, c, rfl, hin, _, hb⟩
  exact ⟨p, c, rfl, hin, hb⟩
theorem exR_right (w : World) : Calls Try.prog 26 #[.agg #[.int .i64 0, .int .i64 0, .int .i64 2, .int .i64 1, .slice none 0 0, .slice none 0 0]] w fun e w' => e = .returned (.bool false) ∧ Below w.heap.size w w' :=
  right_any exR w ⟨In.nil _ _ _ _, ⟨rfl, .inl rfl⟩, trivial⟩ (by simp [exR, Br.Fits, FitsAll]) (by show 1 ≤ 1000; omega)

set_option maxHeartbeats 4000000 in
theorem alive_any (w : World) : Calls Try.prog 9 #[] w fun e w' => e = .returned (.bool true) ∧ Below w.heap.size w w' := by
  have hb0 : Below w.heap.size w ((((w.alloc exO1).alloc exO2).alloc (exO3 w.heap.size)).alloc (exB w.heap.size).h.obj) := ((((Below.refl _ _).alloc (Nat.le_refl _) _).alloc (by simp) _).alloc (by simp; try omega) _).alloc (by simp; try omega) _
  have hl0 := exB_lies w (exB w.heap.size).h.obj
  have hs0 : ((((w.alloc exO1).alloc exO2).alloc (exO3 w.heap.size)).alloc (exB w.heap.size).h.obj).heap.size = w.heap.size + 4 := by simp
  have z3 : (((w.alloc exO1).alloc exO2).alloc (exO3 w.heap.size)).heap.size = w.heap.size + 3 := by simp
  have hat := brAt_new (((w.alloc exO1).alloc exO2).alloc (exO3 w.heap.size)) (exB w.heap.size).h 25
  rw [z3] at hat
  obtain ⟨W, hW⟩ : ∃ W, W = (((w.alloc exO1).alloc exO2).alloc (exO3 w.heap.size)).alloc (exB w.heap.size).h.obj := ⟨_, rfl⟩
  rw [← hW] at hb0 hl0 hs0
  have hat : BrAt W (w.heap.size + 3) 0 (exB w.heap.size).h := by rw [hW]; exact hat
  have HM := Lib.hid (make_any (exB w.heap.size) W hl0 (exB_fits _) (by rw [exB_size]; omega))
  have HB := Lib.hid hb0
  have HL := Lib.hid hl0
  have HAT := Lib.hid hat
  have HW := Lib.hid hW
  clear hb0 hl0 hat hW z3
  go_enter Try.func9, Try.ntmps9
  go_wp2_with fail
  have HM2 := HM.out
  rw [HW.out] at HM2
  refine HM2.mono ?_
  rintro e w1 ⟨T, g, c, rfl, ha, hb1⟩
  rw [← HW.out] at hb1
  have hz1 := hb1.size
  have HA := Lib.hid ha
  have HB1 := Lib.hid (HB.out.trans (hb1.mono (by omega)))
  have HL1 := Lib.hid (HL.out.step _ hb1)
  have HAT1 := Lib.hid (HAT.out.step (by omega) hb1)
  clear HM2 ha hb1 HM HL HAT
  have HX := Lib.hid (len_any w1 HA.out)
  rw [exB_at] at HX
  go_wp2_with fail
  refine HX.out.mono ?_
  rintro e w2 ⟨rfl, rfl⟩
  have HX := Lib.hid (ex_kids w1 HA.out)
  go_wp2_with fail
  refine HX.out.mono ?_
  rintro e w2 ⟨p2, c2, rfl, hin2, hb2⟩
  have hz2 := hb2.size
  have HB2 := Lib.hid hb2
  have hb2' : Below w2.heap.size w2 (w2.alloc (.cells #[.int .i64 1, .int .i64 3] 3)) := (Below.refl _ _).alloc (Nat.le_refl _) _
  have hin3 : In mkI (w2.alloc (.cells #[.int .i64 1, .int .i64 3] 3)) (some ⟨w2.heap.size, 0, none⟩) 2 2 [1, 3] := by
    refine ⟨rfl, .inr ⟨_, _, rfl, Nat.le_refl _, by simp, fun i hi => ?_⟩⟩
    have : i = 0 ∨ i = 1 := by simp at hi; omega
    rcases this with rfl | rfl <;> (rw [Lib.cell_of_heap (heap_alloc_new w2 _)]; rfl)
  have HX := Lib.hid (ints_any p2 2 c2 [1, 3] _ 2 2 [1, 3] _ (hin2.step hb2') hin3 (by omega))
  have HB2 := Lib.hid (hb2.trans (hb2'.mono hz2))
  clear hin2 hin3 hb2 hb2'
  go_wp2_with fail
  refine HX.out.mono ?_
  rintro e w3 ⟨rfl, hb3⟩
  have HB3 := Lib.hid (HB2.out.trans (hb3.mono HB2.out.size))
  clear hb3 HB2
  have hsame1 : sameI [1, 3] [1, 3] = true := rfl
  rw [hsame1]
  have HX := Lib.hid (ex_deep w3 (HA.out.step HB3.out))
  go_wp2_with fail
  refine HX.out.mono ?_
  rintro e w4 ⟨rfl, rfl⟩
  have HX := Lib.hid (ex_within w3 (HA.out.step HB3.out))
  go_wp2_with fail
  refine HX.out.mono ?_
  rintro e w4 ⟨rfl, hb4⟩
  have HB4 := Lib.hid (HB3.out.trans (hb4.mono HB3.out.size))
  clear hb4 HB3
  have HX := Lib.hid (ex_names w4 (HA.out.step HB4.out))
  go_wp2_with fail
  refine HX.out.mono ?_
  rintro e w5 ⟨p5, c5, rfl, hin5, hb5⟩
  have hb5' : Below w5.heap.size w5 (w5.alloc (.cells #[.int .i64 5] 3)) := (Below.refl _ _).alloc (Nat.le_refl _) _
  have hin6 : In mkI (w5.alloc (.cells #[.int .i64 5] 3)) (some ⟨w5.heap.size, 0, none⟩) 1 1 [5] := by
    refine ⟨rfl, .inr ⟨_, _, rfl, Nat.le_refl _, by simp, fun i hi => ?_⟩⟩
    have : i = 0 := by simp at hi; omega
    subst this
    rw [Lib.cell_of_heap (heap_alloc_new w5 _)]; rfl
  have HX := Lib.hid (ints_any p5 1 c5 [5] _ 1 1 [5] _ (hin5.step hb5') hin6 (by omega))
  have hz5 := hb5.size
  have HB5 := Lib.hid (HB4.out.trans ((hb5.trans (hb5'.mono hz5)).mono HB4.out.size))
  clear hin5 hin6 hb5 hb5' HB4
  go_wp2_with fail
  refine HX.out.mono ?_
  rintro e w6 ⟨rfl, hb6⟩
  have HB6 := Lib.hid (HB5.out.trans (hb6.mono HB5.out.size))
  clear hb6 HB5
  have hsame2 : sameI [5] [5] = true := rfl
  rw [hsame2]
  have hz6 := HB6.out.size
  obtain ⟨c0, c1, c2', c3, c4, c5'⟩ := (HAT1.out.step (by omega) HB6.out).box
  have HX := Lib.hid (right_any (exB w.heap.size) w6 (HL1.out.step _ HB6.out) (exB_fits _) (by rw [exB_size]; omega))
  rw [exB_right] at HX
  have k0 : w6.cell? ⟨w.heap.size + 1 + 1 + 1, 0, none⟩ = some (.int .i64 0) := c0
  have k1 : w6.cell? ⟨w.heap.size + 1 + 1 + 1, 1, none⟩ = some (.int .i64 0) := c1
  have k2 : w6.cell? ⟨w.heap.size + 1 + 1 + 1, 2, none⟩ = some (.int .i64 0) := c2'
  have k3 : w6.cell? ⟨w.heap.size + 1 + 1 + 1, 3, none⟩ = some (.int .i64 9) := c3
  have k4 : w6.cell? ⟨w.heap.size + 1 + 1 + 1, 4, none⟩ = some (.slice none 0 0) := c4
  have k5 : w6.cell? ⟨w.heap.size + 1 + 1 + 1, 5, none⟩ = some (.slice (some ⟨w.heap.size + 1 + 1, 0, none⟩) 2 2) := c5'
  clear c0 c1 c2' c3 c4 c5'
  go_wp2_with fail
  refine HX.out.mono ?_
  rintro e w7 ⟨rfl, hb7⟩
  have HB7 := Lib.hid (HB6.out.trans (hb7.mono hz6))
  clear hb7
  have HX := Lib.hid (exR_right w7)
  go_wp2_with fail
  refine HX.out.mono ?_
  rintro e w8 ⟨rfl, hb8⟩
  have HB8 := Lib.hid (HB1.out.trans ((HB7.out.trans (hb8.mono HB7.out.size)).mono HB1.out.size))
  clear hb8
  go_wp2_with fail
  go_ret
  exact ⟨by first | trivial | rfl, HB8.out⟩
end Go.Proofs.Ytcijjeflojaocaa
