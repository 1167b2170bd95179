/-
  What both bind a key to (match.go's items).
-/
import Derived.Test.YtagkpcnedccaiaaFO
import Derived.Test.YtagkpcnedccaiaaFJ
namespace Go.Proofs.Ytagkpcnedccaiaa
open Go.ChangeShapes Go.WideShapes Go.ChangeAt Go.RowKit Go.Deep
set_option maxRecDepth 20000
set_option linter.unusedVariables false
set_option linter.unusedSimpArgs false

theorem itO_four (o : Option Bd) : ∃ (a b : Int) (c d : Option Addr), itO o = .agg #[.int .i64 a, .int .i64 b, .pointer c, .pointer d] := by
 cases o with
 | none => exact ⟨_, _, _, _, rfl⟩
 | some b => exact ⟨_, _, _, _, rfl⟩
def set4 (w : World) (g : Nat) (a b : Int) (c d : Option Addr) : World := (((w.setCell ⟨g, 0, none⟩ (.int .i64 a)).setCell ⟨g, 1, none⟩ (.int .i64 b)).setCell ⟨g, 2, none⟩ (.pointer c)).setCell ⟨g, 3, none⟩ (.pointer d)
theorem set4_same {w : World} {g : Nat} {x0 x1 x2 x3 : Value} {T : TypeId} (h : w.heap[g]? = some (.cells #[x0, x1, x2, x3] T (0, 0))) (a b : Int) (c d : Option Addr) :
  (set4 w g a b c d).heap[g]? = some (.cells #[.int .i64 a, .int .i64 b, .pointer c, .pointer d] T (0, 0)) := by
 unfold set4
 have h1 := heap_setCell_same w g 0 _ _ (.int .i64 a) h
 have h2 := heap_setCell_same _ g 1 _ _ (.int .i64 b) h1
 have h3 := heap_setCell_same _ g 2 _ _ (.pointer c) h2
 have h4 := heap_setCell_same _ g 3 _ _ (.pointer d) h3
 simpa using h4
theorem set4_other (w : World) {g k : Nat} (h : k ≠ g) (a b : Int) (c d : Option Addr) : (set4 w g a b c d).heap[k]? = w.heap[k]? := by
 unfold set4
 rw [Below.heap_setCell _ ⟨g, _, none⟩ _ k h, Below.heap_setCell _ ⟨g, _, none⟩ _ k h, Below.heap_setCell _ ⟨g, _, none⟩ _ k h, Below.heap_setCell _ ⟨g, _, none⟩ _ k h]
theorem set4_below {w0 w : World} {N g : Nat} (h : Below N w0 w) (hg : N ≤ g) (a b : Int) (c d : Option Addr) : Below N w0 (set4 w g a b c d) := by
 unfold set4
 exact (((h.setCell (p := ⟨g, 0, none⟩) hg _).setCell (p := ⟨g, 1, none⟩) hg _).setCell (p := ⟨g, 2, none⟩) hg _).setCell (p := ⟨g, 3, none⟩) hg _
def ItemsPost (w : World) (o o' : Option Bd) (e : Ending) (w' : World) : Prop := e = .returned (.tuple #[itO o, itO o', .bool o'.isSome]) ∧ Below w.heap.size w w'
set_option maxHeartbeats 8000000 in
theorem items_any (w : World) (p q : Option Addr) (l m : List Bd) (k : Ky) (hl : EnvAt w p l) (hm : EnvAt w q m) :
  Calls Try.prog 37 #[.agg #[.pointer p, .pointer q], .agg #[.int .i64 k.1, .string k.2]] w (ItemsPost w (look l k) (look m k)) := by
 obtain ⟨a0, a1, a2, a3, ha⟩ := itO_four (look l k)
 obtain ⟨b0, b1, b2, b3, hb⟩ := itO_four (look m k)
 have HF : Hid (∀ W, Below w.heap.size w W → Calls Try.prog 45 #[.pointer p, .agg #[.int .i64 k.1, .string k.2]] W fun e w' => e = .returned (.tuple #[.agg #[.int .i64 a0, .int .i64 a1, .pointer a2, .pointer a3], .bool (look l k).isSome]) ∧ Below W.heap.size W w') := Lib.hid fun W hW => by rw [← ha]; exact find_any W p l k (hl.step hW)
 have HG : Hid (∀ W, Below w.heap.size w W → Calls Try.prog 45 #[.pointer q, .agg #[.int .i64 k.1, .string k.2]] W fun e w' => e = .returned (.tuple #[.agg #[.int .i64 b0, .int .i64 b1, .pointer b2, .pointer b3], .bool (look m k).isSome]) ∧ Below W.heap.size W w') := Lib.hid fun W hW => by rw [← hb]; exact find_any W q m k (hm.step hW)
 unfold ItemsPost
 rw [ha, hb]
 clear ha hb hl hm
 generalize (look l k).isSome = x at *
 generalize (look m k).isSome = y at *
 obtain ⟨W4, hW4⟩ : ∃ W4, W4 = (((w.alloc (.cells #[.pointer p, .pointer q] 54)).alloc (.cells #[.int .i64 k.1, .string k.2] 27)).alloc (.cells #[.int .i64 0, .int .i64 0, .pointer none, .pointer none] 58)).alloc (.cells #[.int .i64 0, .int .i64 0, .pointer none, .pointer none] 58) := ⟨_, rfl⟩
 have hs4 : W4.heap.size = w.heap.size + 4 := by rw [hW4]; simp
 have HB4 : Hid (Below w.heap.size w W4) := Lib.hid (by rw [hW4]; exact ((((Below.refl _ _).alloc (Nat.le_refl _) _).alloc (by first | (simp; done) | (simp; omega)) _).alloc (by first | (simp; done) | (simp; omega)) _).alloc (by first | (simp; done) | (simp; omega)) _)
 have H0 : W4.heap[w.heap.size]? = some (.cells #[.pointer p, .pointer q] 54 (0, 0)) := by
  rw [hW4]; exact heap_step (heap_new w _) ((((Below.refl _ _).alloc (Nat.le_refl _) _).alloc (by first | (simp; done) | (simp; omega)) _).alloc (by first | (simp; done) | (simp; omega)) _)
 have H1 : W4.heap[w.heap.size + 1]? = some (.cells #[.int .i64 k.1, .string k.2] 27 (0, 0)) := by
  rw [hW4, show w.heap.size + 1 = (w.alloc (.cells #[.pointer p, .pointer q] 54)).heap.size by simp]
  exact heap_step (heap_new _ _) (((Below.refl _ _).alloc (Nat.le_refl _) _).alloc (by first | (simp; done) | (simp; omega)) _)
 have H2 : W4.heap[w.heap.size + 1 + 1]? = some (.cells #[.int .i64 0, .int .i64 0, .pointer none, .pointer none] 58 (0, 0)) := by
  rw [hW4, show w.heap.size + 1 + 1 = ((w.alloc (.cells #[.pointer p, .pointer q] 54)).alloc (.cells #[.int .i64 k.1, .string k.2] 27)).heap.size by simp]
  exact heap_step (heap_new _ _) ((Below.refl _ _).alloc (Nat.le_refl _) _)
 have H3 : W4.heap[w.heap.size + 1 + 1 + 1]? = some (.cells #[.int .i64 0, .int .i64 0, .pointer none, .pointer none] 58 (0, 0)) := by
  rw [hW4, show w.heap.size + 1 + 1 + 1 = (((w.alloc (.cells #[.pointer p, .pointer q] 54)).alloc (.cells #[.int .i64 k.1, .string k.2] 27)).alloc (.cells #[.int .i64 0, .int .i64 0, .pointer none, .pointer none] 58)).heap.size by simp]
  exact heap_new _ _
 have HX0 := Lib.hid H0
 have HX1 := Lib.hid H1
 have HX2 := Lib.hid H2
 have HX3 := Lib.hid H3
 have hc0 : W4.cell? ⟨w.heap.size, 0, none⟩ = some (.pointer p) := (cellH H0 0).trans rfl
 have hc2 : W4.cell? ⟨w.heap.size + 1, 0, none⟩ = some (.int .i64 k.1) := (cellH H1 0).trans rfl
 have hc3 : W4.cell? ⟨w.heap.size + 1, 1, none⟩ = some (.string k.2) := (cellH H1 1).trans rfl
 clear H0 H1 H2 H3
 have HW4 := Lib.hid hW4
 clear hW4
 go_enter Try.func37, Try.ntmps37
 go_wp2_with (first
  | (go_at_call 45; rw [← HW4.out]; refine (HF.out _ HB4.out).mono ?_; rintro e w1 ⟨rfl, hb1⟩; have HB1 := Lib.hid (HB4.out.trans (hb1.mono HB4.out.size)); have g0 := heap_step HX0.out hb1; have g1 := heap_step HX1.out hb1; have g2 := heap_step HX2.out hb1; have g3 := heap_step HX3.out hb1; have HG0 := Lib.hid g0; have HG1 := Lib.hid g1; have HG2 := Lib.hid g2; have HG3 := Lib.hid g3; have q0 : w1.cell? ⟨w.heap.size + 1 + 1, 0, none⟩ = some (.int .i64 0) := (cellH g2 0).trans rfl; have f0 : w1.frozen? ⟨w.heap.size + 1 + 1, 0, none⟩ = false := frozenH g2 0; have q1 : w1.cell? ⟨w.heap.size + 1 + 1, 1, none⟩ = some (.int .i64 0) := (cellH g2 1).trans rfl; have f1 : w1.frozen? ⟨w.heap.size + 1 + 1, 1, none⟩ = false := frozenH g2 1; have q2 : w1.cell? ⟨w.heap.size + 1 + 1, 2, none⟩ = some (.pointer none) := (cellH g2 2).trans rfl; have f2 : w1.frozen? ⟨w.heap.size + 1 + 1, 2, none⟩ = false := frozenH g2 2; have q3 : w1.cell? ⟨w.heap.size + 1 + 1, 3, none⟩ = some (.pointer none) := (cellH g2 3).trans rfl; have f3 : w1.frozen? ⟨w.heap.size + 1 + 1, 3, none⟩ = false := frozenH g2 3; have d1 : w1.cell? ⟨w.heap.size, 1, none⟩ = some (.pointer q) := (cellH g0 1).trans rfl; have k0 : w1.cell? ⟨w.heap.size + 1, 0, none⟩ = some (.int .i64 k.1) := (cellH g1 0).trans rfl; have k1 : w1.cell? ⟨w.heap.size + 1, 1, none⟩ = some (.string k.2) := (cellH g1 1).trans rfl; clear hb1 g0 g1 g2 g3)
  | (go_at_call 45; refine (HG.out (set4 w1 (w.heap.size + 1 + 1) a0 a1 a2 a3) (set4_below HB1.out (by omega) _ _ _ _)).mono ?_; rintro e w2 ⟨rfl, hb2⟩; have HB2 := Lib.hid ((set4_below (g := w.heap.size + 1 + 1) HB1.out (by omega) a0 a1 a2 a3).trans (hb2.mono (set4_below (g := w.heap.size + 1 + 1) HB1.out (by omega) a0 a1 a2 a3).size)); have g2 := heap_step (set4_same HG2.out a0 a1 a2 a3) hb2; have g3 := heap_step ((set4_other w1 (g := w.heap.size + 1 + 1) (k := w.heap.size + 1 + 1 + 1) (by omega) a0 a1 a2 a3).trans HG3.out) hb2; have q0' : w2.cell? ⟨w.heap.size + 1 + 1, 0, none⟩ = some (.int .i64 a0) := (cellH g2 0).trans rfl; have f0' : w2.frozen? ⟨w.heap.size + 1 + 1, 0, none⟩ = false := frozenH g2 0; have q1' : w2.cell? ⟨w.heap.size + 1 + 1, 1, none⟩ = some (.int .i64 a1) := (cellH g2 1).trans rfl; have f1' : w2.frozen? ⟨w.heap.size + 1 + 1, 1, none⟩ = false := frozenH g2 1; have q2' : w2.cell? ⟨w.heap.size + 1 + 1, 2, none⟩ = some (.pointer a2) := (cellH g2 2).trans rfl; have f2' : w2.frozen? ⟨w.heap.size + 1 + 1, 2, none⟩ = false := frozenH g2 2; have q3' : w2.cell? ⟨w.heap.size + 1 + 1, 3, none⟩ = some (.pointer a3) := (cellH g2 3).trans rfl; have f3' : w2.frozen? ⟨w.heap.size + 1 + 1, 3, none⟩ = false := frozenH g2 3; have HR2 := Lib.hid g2; have HR3 := Lib.hid g3; have r0' : w2.cell? ⟨w.heap.size + 1 + 1 + 1, 0, none⟩ = some (.int .i64 0) := (cellH g3 0).trans rfl; have e0' : w2.frozen? ⟨w.heap.size + 1 + 1 + 1, 0, none⟩ = false := frozenH g3 0; have r1' : w2.cell? ⟨w.heap.size + 1 + 1 + 1, 1, none⟩ = some (.int .i64 0) := (cellH g3 1).trans rfl; have e1' : w2.frozen? ⟨w.heap.size + 1 + 1 + 1, 1, none⟩ = false := frozenH g3 1; have r2' : w2.cell? ⟨w.heap.size + 1 + 1 + 1, 2, none⟩ = some (.pointer none) := (cellH g3 2).trans rfl; have e2' : w2.frozen? ⟨w.heap.size + 1 + 1 + 1, 2, none⟩ = false := frozenH g3 2; have r3' : w2.cell? ⟨w.heap.size + 1 + 1 + 1, 3, none⟩ = some (.pointer none) := (cellH g3 3).trans rfl; have e3' : w2.frozen? ⟨w.heap.size + 1 + 1 + 1, 3, none⟩ = false := frozenH g3 3; clear hb2 g2 g3))
 have HB6 := Lib.hid (set4_below (g := w.heap.size + 1 + 1 + 1) HB2.out (by omega) b0 b1 b2 b3)
 have g3 := set4_same HR3.out b0 b1 b2 b3
 have g2 := (set4_other w2 (g := w.heap.size + 1 + 1 + 1) (k := w.heap.size + 1 + 1) (by omega) b0 b1 b2 b3).trans HR2.out
 have hsz6 : w.heap.size + 4 ≤ (set4 w2 (w.heap.size + 1 + 1 + 1) b0 b1 b2 b3).heap.size := by have := heap_lt g3; omega
 clear q0' q1' q2' q3' f0' f1' f2' f3' r0' r1' r2' r3' e0' e1' e2' e3' q0 q1 q2 q3 f0 f1 f2 f3 d1 k0 k1 hc0 hc2 hc3
 unfold set4 at HB6 g2 g3 hsz6
 generalize (((w2.setCell ⟨w.heap.size + 1 + 1 + 1, 0, none⟩ (.int .i64 b0)).setCell ⟨w.heap.size + 1 + 1 + 1, 1, none⟩ (.int .i64 b1)).setCell ⟨w.heap.size + 1 + 1 + 1, 2, none⟩ (.pointer b2)).setCell ⟨w.heap.size + 1 + 1 + 1, 3, none⟩ (.pointer b3) = W6 at *
 have q0 : W6.cell? ⟨w.heap.size + 1 + 1, 0, none⟩ = some (.int .i64 a0) := (cellH g2 0).trans rfl
 have f0 : W6.frozen? ⟨w.heap.size + 1 + 1, 0, none⟩ = false := frozenH g2 0
 have r0 : W6.cell? ⟨w.heap.size + 1 + 1 + 1, 0, none⟩ = some (.int .i64 b0) := (cellH g3 0).trans rfl
 have e0 : W6.frozen? ⟨w.heap.size + 1 + 1 + 1, 0, none⟩ = false := frozenH g3 0
 have q1 : W6.cell? ⟨w.heap.size + 1 + 1, 1, none⟩ = some (.int .i64 a1) := (cellH g2 1).trans rfl
 have f1 : W6.frozen? ⟨w.heap.size + 1 + 1, 1, none⟩ = false := frozenH g2 1
 have r1 : W6.cell? ⟨w.heap.size + 1 + 1 + 1, 1, none⟩ = some (.int .i64 b1) := (cellH g3 1).trans rfl
 have e1 : W6.frozen? ⟨w.heap.size + 1 + 1 + 1, 1, none⟩ = false := frozenH g3 1
 have q2 : W6.cell? ⟨w.heap.size + 1 + 1, 2, none⟩ = some (.pointer a2) := (cellH g2 2).trans rfl
 have f2 : W6.frozen? ⟨w.heap.size + 1 + 1, 2, none⟩ = false := frozenH g2 2
 have r2 : W6.cell? ⟨w.heap.size + 1 + 1 + 1, 2, none⟩ = some (.pointer b2) := (cellH g3 2).trans rfl
 have e2 : W6.frozen? ⟨w.heap.size + 1 + 1 + 1, 2, none⟩ = false := frozenH g3 2
 have q3 : W6.cell? ⟨w.heap.size + 1 + 1, 3, none⟩ = some (.pointer a3) := (cellH g2 3).trans rfl
 have f3 : W6.frozen? ⟨w.heap.size + 1 + 1, 3, none⟩ = false := frozenH g2 3
 have r3 : W6.cell? ⟨w.heap.size + 1 + 1 + 1, 3, none⟩ = some (.pointer b3) := (cellH g3 3).trans rfl
 have e3 : W6.frozen? ⟨w.heap.size + 1 + 1 + 1, 3, none⟩ = false := frozenH g3 3
 have HG2 := Lib.hid g2
 have HG3 := Lib.hid g3
 clear g2 g3
 go_region
 go_wp2_with fail
 try simp only [Exit.inBlock, Exit.then]
 have HB7 := set4_below (g := w.heap.size + 1 + 1 + 1) (set4_below (g := w.heap.size + 1 + 1) HB6.out (by omega) a0 a1 a2 a3) (by omega) b0 b1 b2 b3
 have g2 := (set4_other (set4 W6 (w.heap.size + 1 + 1) a0 a1 a2 a3) (g := w.heap.size + 1 + 1 + 1) (k := w.heap.size + 1 + 1) (by omega) b0 b1 b2 b3).trans (set4_same HG2.out a0 a1 a2 a3)
 have g3 := set4_same ((set4_other W6 (g := w.heap.size + 1 + 1) (k := w.heap.size + 1 + 1 + 1) (by omega) a0 a1 a2 a3).trans HG3.out) b0 b1 b2 b3
 clear q0 q1 q2 q3 f0 f1 f2 f3 r0 r1 r2 r3 e0 e1 e2 e3 HG2 HG3
 unfold set4 at HB7 g2 g3
 generalize ((((((((W6.setCell ⟨w.heap.size + 1 + 1, 0, none⟩ (.int .i64 a0)).setCell ⟨w.heap.size + 1 + 1, 1, none⟩ (.int .i64 a1)).setCell ⟨w.heap.size + 1 + 1, 2, none⟩ (.pointer a2)).setCell ⟨w.heap.size + 1 + 1, 3, none⟩ (.pointer a3)).setCell ⟨w.heap.size + 1 + 1 + 1, 0, none⟩ (.int .i64 b0)).setCell ⟨w.heap.size + 1 + 1 + 1, 1, none⟩ (.int .i64 b1)).setCell ⟨w.heap.size + 1 + 1 + 1, 2, none⟩ (.pointer b2)).setCell ⟨w.heap.size + 1 + 1 + 1, 3, none⟩ (.pointer b3)) = W7 at HB7 g2 g3 ⊢
 have q0 : W7.drew.cell? ⟨w.heap.size + 1 + 1, 0, none⟩ = some (.int .i64 a0) := (cellH g2 0).trans rfl
 have r0 : W7.drew.cell? ⟨w.heap.size + 1 + 1 + 1, 0, none⟩ = some (.int .i64 b0) := (cellH g3 0).trans rfl
 have q1 : W7.drew.cell? ⟨w.heap.size + 1 + 1, 1, none⟩ = some (.int .i64 a1) := (cellH g2 1).trans rfl
 have r1 : W7.drew.cell? ⟨w.heap.size + 1 + 1 + 1, 1, none⟩ = some (.int .i64 b1) := (cellH g3 1).trans rfl
 have q2 : W7.drew.cell? ⟨w.heap.size + 1 + 1, 2, none⟩ = some (.pointer a2) := (cellH g2 2).trans rfl
 have r2 : W7.drew.cell? ⟨w.heap.size + 1 + 1 + 1, 2, none⟩ = some (.pointer b2) := (cellH g3 2).trans rfl
 have q3 : W7.drew.cell? ⟨w.heap.size + 1 + 1, 3, none⟩ = some (.pointer a3) := (cellH g2 3).trans rfl
 have r3 : W7.drew.cell? ⟨w.heap.size + 1 + 1 + 1, 3, none⟩ = some (.pointer b3) := (cellH g3 3).trans rfl
 have HB8 := Lib.hid HB7.drew
 clear HB7
 generalize W7.drew = W8 at *
 clear g2 g3 HB6 HB2 HB1 HG0 HG1 HX0 HX1 HX2 HX3 HF HG HW4 hs4 HB4
 refine bodyPost_ret (by simp [results, Try.results37, go_sem, q0, q1, q2, q3, r0, r1, r2, r3, Result.andThen]; try rfl) rfl ?_
 exact ⟨rfl, HB8.out⟩
end Go.Proofs.Ytagkpcnedccaiaa
