/-
  The chapter's example (alive), walked.
-/
import Derived.Test.YtggoajpemffbiaaSpr
import Derived.Test.YtggoajpemffbiaaSlf
namespace Go.Proofs.Ytggoajpemffbiaa
open Go.RowKit
set_option maxRecDepth 20000
set_option linter.unusedVariables false
set_option linter.unusedSimpArgs false

def exE : List Int := [0, 0, 2]
def exV : List Int := [-1, -1, -1]
def exO : List Oc := [⟨0, 0, 0, 1, true⟩, ⟨0, 0, 0, 1, false⟩, ⟨0, 0, 0, 1, true⟩]
def exG (N : Nat) : Gr := ⟨some ⟨N, 0, none⟩, 3, 3, none, 0, 0, some ⟨N + 1, 0, none⟩, 3, 3⟩
theorem ex_right : rightB exE [] exV exO = true := by decide
theorem ex_fam : famO exE [] 1 = [0, 1] := by decide
theorem ex_spare : selN (sparB exE exO) exO.length = [2] := by decide
theorem ex_yes : CarP exE [] exE [] [0, 1, 2] := carp_id (right_ok ex_right) (by decide)
theorem ex_no : ¬ CarP exE [] exE [] [2, 1, 0] := fun h => by
  have := h.edge 1 1 0 rfl (by omega) rfl
  simp [exE, mAt] at this
theorem is_lit (w : World) (l : List Int) (n : Nat) (hn : n = l.length) : IS (w.alloc (.cells (l.map (Value.int .i64)).toArray 3)) (some ⟨w.heap.size, 0, none⟩) n n l := by
  refine ⟨hn, .inr ⟨w.heap.size, 0, rfl, Nat.le_refl _, by simp, fun i x hi => ?_⟩⟩
  rw [cellH (heap_new w _), Nat.zero_add]
  simp [hi]
/-- The example's world. -/
def exW (w : World) : World := ((((w.alloc (.cells #[.int .i64 0, .int .i64 0, .int .i64 2] 3)).alloc (.cells #[.int .i64 (-1), .int .i64 (-1), .int .i64 (-1)] 3)).alloc (.cells #[.slice (some ⟨w.heap.size, 0, none⟩) 3 3, .slice none 0 0, .slice (some ⟨w.heap.size + 1, 0, none⟩) 3 3] 25)).alloc (.cells #[.int .i64 0, .int .i64 0, .int .i64 0, .int .i64 1, .bool true, .int .i64 0, .int .i64 0, .int .i64 0, .int .i64 1, .bool false, .int .i64 0, .int .i64 0, .int .i64 0, .int .i64 1, .bool true] 44))
structure ExIn (w0 w : World) : Prop where
  g : GrIn w (exG w0.heap.size) exE [] exV
  o : OS w (some ⟨w0.heap.size + 1 + 1 + 1, 0, none⟩) 3 3 exO
  b : w.heap[w0.heap.size + 1 + 1]? = some (.cells #[.slice (some ⟨w0.heap.size, 0, none⟩) 3 3, .slice none 0 0, .slice (some ⟨w0.heap.size + 1, 0, none⟩) 3 3] 25 (0, 0))
  w : Below w0.heap.size w0 w
theorem ExIn.step {w0 w w1 : World} (h : ExIn w0 w) (hw : Below w.heap.size w w1) : ExIn w0 w1 := ⟨h.g.step hw, h.o.step hw, heap_step h.b hw, h.w.trans (hw.mono h.w.size)⟩
theorem exW_in (w : World) : ExIn w (exW w) := by
  unfold exW
  have i1 := is_lit w exE 3 rfl
  have b1 : Below w.heap.size w (w.alloc (.cells #[.int .i64 0, .int .i64 0, .int .i64 2] 3)) := (Below.refl _ _).alloc (Nat.le_refl _) _
  have z1 : (w.alloc (.cells #[.int .i64 0, .int .i64 0, .int .i64 2] 3)).heap.size = w.heap.size + 1 := by simp
  change IS (w.alloc (.cells #[.int .i64 0, .int .i64 0, .int .i64 2] 3)) _ _ _ _ at i1
  generalize w.alloc (.cells #[.int .i64 0, .int .i64 0, .int .i64 2] 3) = w1 at *
  have i2 := is_lit w1 exV 3 rfl
  change IS (w1.alloc (.cells #[.int .i64 (-1), .int .i64 (-1), .int .i64 (-1)] 3)) _ _ _ _ at i2
  have b2 : Below w1.heap.size w1 (w1.alloc (.cells #[.int .i64 (-1), .int .i64 (-1), .int .i64 (-1)] 3)) := (Below.refl _ _).alloc (Nat.le_refl _) _
  have z2 : (w1.alloc (.cells #[.int .i64 (-1), .int .i64 (-1), .int .i64 (-1)] 3)).heap.size = w.heap.size + 1 + 1 := by simp [z1]
  rw [z1] at i2
  generalize w1.alloc (.cells #[.int .i64 (-1), .int .i64 (-1), .int .i64 (-1)] 3) = w2 at *
  have b3 : Below w2.heap.size w2 (w2.alloc (.cells #[.slice (some ⟨w.heap.size, 0, none⟩) 3 3, .slice none 0 0, .slice (some ⟨w.heap.size + 1, 0, none⟩) 3 3] 25)) := (Below.refl _ _).alloc (Nat.le_refl _) _
  have z3 : (w2.alloc (.cells #[.slice (some ⟨w.heap.size, 0, none⟩) 3 3, .slice none 0 0, .slice (some ⟨w.heap.size + 1, 0, none⟩) 3 3] 25)).heap.size = w.heap.size + 1 + 1 + 1 := by simp [z2]
  have e3 := heap_new w2 (.cells #[.slice (some ⟨w.heap.size, 0, none⟩) 3 3, .slice none 0 0, .slice (some ⟨w.heap.size + 1, 0, none⟩) 3 3] 25)
  rw [z2] at e3
  generalize w2.alloc (.cells #[.slice (some ⟨w.heap.size, 0, none⟩) 3 3, .slice none 0 0, .slice (some ⟨w.heap.size + 1, 0, none⟩) 3 3] 25) = w3 at *
  have b4 : Below w3.heap.size w3 (w3.alloc (.cells #[.int .i64 0, .int .i64 0, .int .i64 0, .int .i64 1, .bool true, .int .i64 0, .int .i64 0, .int .i64 0, .int .i64 1, .bool false, .int .i64 0, .int .i64 0, .int .i64 0, .int .i64 1, .bool true] 44)) := (Below.refl _ _).alloc (Nat.le_refl _) _
  have e4 := heap_new w3 (.cells #[.int .i64 0, .int .i64 0, .int .i64 0, .int .i64 1, .bool true, .int .i64 0, .int .i64 0, .int .i64 0, .int .i64 1, .bool false, .int .i64 0, .int .i64 0, .int .i64 0, .int .i64 1, .bool true] 44)
  rw [z3] at e4
  refine ⟨⟨((i1.step b2).step b3).step b4, ⟨rfl, .inl rfl⟩, (i2.step b3).step b4, fun x hx => ?_, fun p hp => by simp at hp, fun x hx => ?_⟩, ⟨rfl, .inr ⟨_, 0, rfl, Nat.le_refl _, heap_lt e4, fun i o hi => ?_⟩⟩, heap_step e3 b4, ?_⟩
  · simp [exE] at hx; unfold W64; omega
  · simp [exV] at hx; unfold W64; omega
  · match i, hi with
    | 0, hi => cases hi; exact ⟨(cellH e4 _).trans rfl, (cellH e4 _).trans rfl, (cellH e4 _).trans rfl, (cellH e4 _).trans rfl, (cellH e4 _).trans rfl⟩
    | 1, hi => cases hi; exact ⟨(cellH e4 _).trans rfl, (cellH e4 _).trans rfl, (cellH e4 _).trans rfl, (cellH e4 _).trans rfl, (cellH e4 _).trans rfl⟩
    | 2, hi => cases hi; exact ⟨(cellH e4 _).trans rfl, (cellH e4 _).trans rfl, (cellH e4 _).trans rfl, (cellH e4 _).trans rfl, (cellH e4 _).trans rfl⟩
    | j + 3, hi => simp [exO] at hi
  · have h1 := b1.trans (b2.mono (by omega))
    have h2 := h1.trans (b3.mono (by omega))
    exact h2.trans (b4.mono (by omega))
structure ExC (w0 w : World) : Prop where
  c0 : w.cell? ⟨w0.heap.size + 1 + 1, 0, none⟩ = some (.slice (some ⟨w0.heap.size, 0, none⟩) 3 3)
  c1 : w.cell? ⟨w0.heap.size + 1 + 1, 1, none⟩ = some (.slice none 0 0)
  c2 : w.cell? ⟨w0.heap.size + 1 + 1, 2, none⟩ = some (.slice (some ⟨w0.heap.size + 1, 0, none⟩) 3 3)
theorem ExIn.c {w0 w : World} (h : ExIn w0 w) : ExC w0 w := ⟨(cellH h.b 0).trans rfl, (cellH h.b 1).trans rfl, (cellH h.b 2).trans rfl⟩
theorem exG_v (N : Nat) : (exG N).v = .agg #[.slice (some ⟨N, 0, none⟩) 3 3, .slice none 0 0, .slice (some ⟨N + 1, 0, none⟩) 3 3] := rfl
theorem w64_small : ∀ x ∈ [(0 : Int), 1, 2], W64 x := fun x hx => by simp at hx; unfold W64; omega
theorem w64_small2 : ∀ x ∈ [(2 : Int), 1, 0], W64 x := fun x hx => by simp at hx; unfold W64; omega
set_option maxHeartbeats 8000000 in
theorem alive_any (w : World) : Calls Try.prog 8 #[] w fun e w' => e = .returned (.bool true) ∧ Below w.heap.size w w' := by
  obtain ⟨W0, hW⟩ : ∃ W0, W0 = exW w := ⟨_, rfl⟩
  have HX := Lib.hid (exW_in w)
  rw [← hW] at HX
  unfold exW at hW
  have hgv := exG_v w.heap.size
  go_enter Try.func8, Try.ntmps8
  go_upto_region 3 with fail
  rw [← hW]
  clear hW
  obtain ⟨c0, c1, c2⟩ := HX.out.c
  have HR := Lib.hid (right_any (exG w.heap.size) exE [] exV _ 3 3 exO W0 HX.out.g HX.out.o (by simp only [exG]; omega) (by omega) (by simp only [exG]; omega))
  rw [hgv, ex_right] at HR
  go_wp2_with fail
  refine HR.out.mono ?_
  rintro e w1 ⟨rfl, hb1⟩
  have HX1 := Lib.hid (HX.out.step hb1)
  clear hb1 HR HX c0 c1 c2
  obtain ⟨c0, c1, c2⟩ := HX1.out.c
  have HF := Lib.hid (family_any (exG w.heap.size) exE [] exV 1 w1 HX1.out.g (by simp only [exG]; omega) (by simp only [exG]; omega) (by unfold W64; omega))
  rw [hgv, ex_fam] at HF
  go_wp2_with fail
  refine HF.out.mono ?_
  rintro e w2 ⟨v2, rfl, ho2, hb2⟩
  obtain ⟨q2, n2, d2, rfl, his2⟩ := ho2.is
  have HI2 := Lib.hid his2
  have hn2 : n2 ≤ 1000 := by have := his2.1; simp at this; omega
  have HX2 := Lib.hid (HX1.out.step hb2)
  clear hb2 ho2 his2 HF HX1 c0 c1 c2
  have ha : Below w2.heap.size w2 (w2.alloc (.cells #[.int .i64 0, .int .i64 1] 3)) := (Below.refl _ _).alloc (Nat.le_refl _) _
  have HN2 := Lib.hid (ints_any q2 (some ⟨w2.heap.size, 0, none⟩) n2 2 d2 2 [0, 1] [0, 1] _ (HI2.out.step ha) (is_lit w2 [0, 1] 2 rfl) hn2)
  have HX3 := Lib.hid (HX2.out.step ha)
  clear ha HX2 HI2 hn2
  go_wp2_with fail
  refine HN2.out.mono ?_
  rintro e w3 ⟨rfl, hb3⟩
  have HX4 := Lib.hid (HX3.out.step hb3)
  clear hb3 HX3 HN2
  obtain ⟨c0, c1, c2⟩ := HX4.out.c
  have HS := Lib.hid (spare_any (exG w.heap.size) exE exV _ 3 3 exO w3 HX4.out.g HX4.out.o (by simp only [exG]; omega) (by omega))
  rw [hgv, ex_spare] at HS
  go_wp2_with fail
  refine HS.out.mono ?_
  rintro e w4 ⟨v4, rfl, ho4, hb4⟩
  obtain ⟨q4, n4, d4, rfl, his4⟩ := ho4.is
  have HI4 := Lib.hid his4
  have hn4 : n4 ≤ 1000 := by have := his4.1; simp at this; omega
  have HX5 := Lib.hid (HX4.out.step hb4)
  clear hb4 ho4 his4 HS HX4 c0 c1 c2
  have ha : Below w4.heap.size w4 (w4.alloc (.cells #[.int .i64 2] 3)) := (Below.refl _ _).alloc (Nat.le_refl _) _
  have HN4 := Lib.hid (ints_any q4 (some ⟨w4.heap.size, 0, none⟩) n4 1 d4 1 [2] [2] _ (HI4.out.step ha) (is_lit w4 [2] 1 rfl) hn4)
  have HX6 := Lib.hid (HX5.out.step ha)
  clear ha HX5 HI4 hn4
  go_wp2_with fail
  refine HN4.out.mono ?_
  rintro e w5 ⟨rfl, hb5⟩
  have HX7 := Lib.hid (HX6.out.step hb5)
  clear hb5 HX6 HN4
  obtain ⟨c0, c1, c2⟩ := HX7.out.c
  have ha : Below w5.heap.size w5 (w5.alloc (.cells #[.int .i64 0, .int .i64 1, .int .i64 2] 3)) := (Below.refl _ _).alloc (Nat.le_refl _) _
  have HX8 := Lib.hid (HX7.out.step ha)
  have HC1 := Lib.hid (carries_any (exG w.heap.size) exE [] exV (exG w.heap.size) exE [] exV (some ⟨w5.heap.size, 0, none⟩) 3 3 [0, 1, 2] _ HX8.out.g HX8.out.g (is_lit w5 [0, 1, 2] 3 rfl) w64_small (by omega) (by simp only [exG]; omega))
  rw [hgv] at HC1
  clear ha HX7
  go_wp2_with fail
  refine HC1.out.mono ?_
  rintro e w6 ⟨o6, rfl, hi6, hb6⟩
  have ho6 : o6 = true := hi6.2 ex_yes
  subst ho6
  have HX9 := Lib.hid (HX8.out.step hb6)
  clear hb6 hi6 HC1 HX8 c0 c1 c2
  obtain ⟨c0, c1, c2⟩ := HX9.out.c
  have ha : Below w6.heap.size w6 (w6.alloc (.cells #[.int .i64 2, .int .i64 1, .int .i64 0] 3)) := (Below.refl _ _).alloc (Nat.le_refl _) _
  have HXa := Lib.hid (HX9.out.step ha)
  have HC2 := Lib.hid (carries_any (exG w.heap.size) exE [] exV (exG w.heap.size) exE [] exV (some ⟨w6.heap.size, 0, none⟩) 3 3 [2, 1, 0] _ HXa.out.g HXa.out.g (is_lit w6 [2, 1, 0] 3 rfl) w64_small2 (by omega) (by simp only [exG]; omega))
  rw [hgv] at HC2
  clear ha HX9
  go_wp2_with fail
  refine HC2.out.mono ?_
  rintro e w7 ⟨o7, rfl, hi7, hb7⟩
  have ho7 : o7 = false := by
    cases o7 with
    | false => rfl
    | true => exact absurd (hi7.1 rfl) ex_no
  subst ho7
  have HXb := Lib.hid (HXa.out.step hb7)
  clear hb7 hi7 HC2 HXa c0 c1 c2
  go_wp2_with fail
  go_ret
  exact ⟨rfl, HXb.out.w⟩
end Go.Proofs.Ytggoajpemffbiaa
