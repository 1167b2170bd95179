/-
  The walk for what is missed (match.go's missing, its closure): a pair that was met, and one that is begun.
-/
import Derived.Test.YtagkpcnedccaiaaFP
import Derived.Test.YtagkpcnedccaiaaGB
import Derived.Test.YtagkpcnedccaiaaFJ
namespace Go.Proofs.Ytagkpcnedccaiaa
open Go.ChangeShapes Go.WideShapes Go.ChangeAt Go.RowKit Go.Deep
set_option maxRecDepth 20000
set_option linter.unusedVariables false
set_option linter.unusedSimpArgs false

set_option maxHeartbeats 16000000 in
theorem miss_met (w0 w : World) (n C b cm : Nat) (a d : Option Nat) (cw : Option Addr) (tab : List ((Option Nat × Option Nat) × Value)) (x y : List Bn)
  (hB : Below w0.heap.size w0 w) (hb0 : w0.heap.size ≤ b) (hx : EnvIs w0 (a.bind at0) x) (hy : EnvIs w0 (d.bind at0) y)
  (hcm : w.heap[cm]? = some (.cells #[.map (some b)] 73 (0, 0))) (hmv : MapV pairV w b tab) (hct : Cts tab C) (hC : C ≤ 8000000) (hgt : GdT w0 tab) (hdn : Dn w0 n (tab.map (·.1))) (hn : sizes x ≤ n)
  (hin : (a, d) ∈ tab.map (·.1)) :
  Calls Try.prog 35 #[.agg #[.pointer (a.bind at0), .pointer (d.bind at0)], .pointer (some ⟨cm, 0, none⟩), .pointer cw] w (MissPost w0 w b C (tab.map (·.1)) x y) := by
 have hok := hdn _ hin x y hx hy hn
 have hga : GoodB w0 a := by have := hx.nO; intro g hg; subst hg; exact this.2 g rfl
 have hgd : GoodB w0 d := by have := hy.nO; intro g hg; subst hg; exact this.2 g rfl
 obtain ⟨v0, hv0⟩ : ∃ v0, lkm tab (a, d) = some v0 := by
  cases hl : lkm tab (a, d) with
  | none => exact absurd hin ((lkm_none tab (a, d)).1 hl)
  | some v => exact ⟨v, rfl⟩
 obtain ⟨c0, rfl, hc1, hc2⟩ := hct _ _ hv0
 obtain ⟨Wd, hWd⟩ : ∃ Wd, Wd = ((w.alloc (.cells #[.pointer (a.bind at0), .pointer (d.bind at0)] 54)).alloc (.cells #[.int .i64 0, .string ⟨#[]⟩] 27)).drew := ⟨_, rfl⟩
 have hWdS : Below w.heap.size w Wd := by rw [hWd]; exact (((Below.refl _ _).alloc (Nat.le_refl _) _).alloc (by simp) _).drew
 have hWdB : Below w0.heap.size w0 Wd := hB.trans (hWdS.mono hB.size)
 have hmd := hmv.step hWdS
 have hlw := hmv.lt
 have hcl := heap_lt hcm
 have hcb : cm ≠ b := by
  rintro rfl
  obtain ⟨es, c, h1, _⟩ := hmv
  rw [hcm] at h1; cases h1
 have hWdb : Wd.heap[w.heap.size]? = some (.cells #[.pointer (a.bind at0), .pointer (d.bind at0)] 54 (0, 0)) := by
  rw [hWd]; exact heap_step (heap_new w _) (((Below.refl _ _).alloc (Nat.le_refl _) _).drew)
 have hWds : Wd.heap.size = w.heap.size + 2 := by rw [hWd]; show ((w.alloc _).alloc _).heap.size = _; simp
 have hcd := heap_step hcm hWdS
 have hgw : ∀ k ∈ tab, GoodB Wd k.1.1 ∧ GoodB Wd k.1.2 := hgt.step hWdB
 have hgk : GoodB Wd a ∧ GoodB Wd d := ⟨hga.step hWdB, hgd.step hWdB⟩
 obtain ⟨st, W1, W2, e2, hm1, e4, hm2⟩ := entry_run key71_ok Try.underlying73 Wd b tab hmd hgw (a, d) hgk (zero3 Wd) (.int .i64 ((c0 : Int) + 1))
 have e1 := look_run key71_ok Try.underlying73 Wd b tab hmd hgw (a, d) hgk (zero3 Wd) false
 have hW1B := hm1.bel _ _ hb0 hWdB
 have hW2B := hm2.bel _ _ hb0 hWdB
 have hg1 : ∀ k ∈ upm tab (a, d) ((lkm tab (a, d)).getD (.int .i64 0)), GoodB W1 k.1.1 ∧ GoodB W1 k.1.2 := GdT.up (hgt.step hW1B) _ _ ⟨hga.step hW1B, hgd.step hW1B⟩
 have hg2 : ∀ k ∈ upm tab (a, d) (.int .i64 ((c0 : Int) + 1)), GoodB W2 k.1.1 ∧ GoodB W2 k.1.2 := GdT.up (hgt.step hW2B) _ _ ⟨hga.step hW2B, hgd.step hW2B⟩
 have e5 := look_run key71_ok Try.underlying73 W2 b _ hm2.map hg2 (a, d) ⟨hga.step hW2B, hgd.step hW2B⟩ (zero3 W2) false
 have e3 := look_run key71_ok Try.underlying73 W1 b _ hm1.map hg1 (a, d) ⟨hga.step hW1B, hgd.step hW1B⟩ (zero3 W1) false
 rw [lkm_up, if_pos rfl] at e3 e5
 rw [hv0] at e1 e2 e3
 simp only [Bool.false_eq_true, if_false, Option.getD, pairV, ptrB] at e1 e2 e3 e4 e5
 have hb2 : W2.heap[w.heap.size]? = some (.cells #[.pointer (a.bind at0), .pointer (d.bind at0)] 54 (0, 0)) := (hm2.kp.blk _ (by rw [hWds]; omega) (by omega)).trans hWdb
 have hb1 : W1.heap[w.heap.size]? = some (.cells #[.pointer (a.bind at0), .pointer (d.bind at0)] 54 (0, 0)) := (hm1.kp.blk _ (by rw [hWds]; omega) (by omega)).trans hWdb
 have hd1 := (hm1.kp.blk cm (by rw [hWds]; omega) hcb).trans hcd
 have hd2 := (hm2.kp.blk cm (by rw [hWds]; omega) hcb).trans hcd
 have w0' : Wd.cell? ⟨w.heap.size, 0, none⟩ = some (.pointer (a.bind at0)) := (cellH hWdb 0).trans rfl
 have w1' : Wd.cell? ⟨w.heap.size, 1, none⟩ = some (.pointer (d.bind at0)) := (cellH hWdb 1).trans rfl
 have y0 : W1.cell? ⟨w.heap.size, 0, none⟩ = some (.pointer (a.bind at0)) := (cellH hb1 0).trans rfl
 have y1 : W1.cell? ⟨w.heap.size, 1, none⟩ = some (.pointer (d.bind at0)) := (cellH hb1 1).trans rfl
 have z0 : W2.cell? ⟨w.heap.size, 0, none⟩ = some (.pointer (a.bind at0)) := (cellH hb2 0).trans rfl
 have z1 : W2.cell? ⟨w.heap.size, 1, none⟩ = some (.pointer (d.bind at0)) := (cellH hb2 1).trans rfl
 have m0 : Wd.cell? ⟨cm, 0, none⟩ = some (.map (some b)) := (cellH hcd 0).trans rfl
 have m1 : W1.cell? ⟨cm, 0, none⟩ = some (.map (some b)) := (cellH hd1 0).trans rfl
 have m2 : W2.cell? ⟨cm, 0, none⟩ = some (.map (some b)) := (cellH hd2 0).trans rfl
 have hb2' : W2.heap[w.heap.size + 1]? = some (.cells #[.int .i64 0, .string ⟨#[]⟩] 27 (0, 0)) := (hm2.kp.blk _ (by rw [hWds]; omega) (by omega)).trans (by
  rw [hWd, show w.heap.size + 1 = (w.alloc (.cells #[.pointer (a.bind at0), .pointer (d.bind at0)] 54)).heap.size by simp]; exact heap_new _ _)
 have z2 : W2.cell? ⟨w.heap.size + 1, 0, none⟩ = some (.int .i64 0) := (cellH hb2' 0).trans rfl
 have z3 : W2.cell? ⟨w.heap.size + 1, 1, none⟩ = some (.string ⟨#[]⟩) := (cellH hb2' 1).trans rfl
 have f2 : W2.frozen? ⟨w.heap.size + 1, 0, none⟩ = false := frozenH hb2' 0
 have f3 : W2.frozen? ⟨w.heap.size + 1, 1, none⟩ = false := frozenH hb2' 1
 have HBX := Lib.hid hb2'
 have HMV2 := Lib.hid hm2.map
 have HMVK := Lib.hid (Mv.trans (Mv.of hWdS (Nat.le_of_lt hlw)) ⟨hm2.kp, hm2.bel⟩)
 have HG2 := Lib.hid (hgt.up (a, d) (.int .i64 ((c0 : Int) + 1)) ⟨hga, hgd⟩)
 have HCN : Hid (Cts (upm tab (a, d) (.int .i64 ((c0 : Int) + 1))) (C + sizes x + 1)) := Lib.hid (hct.up (a, d) (c0 + 1) (by omega) (by omega) (by omega))
 have HDN : Hid (New2 w0 (tab.map (·.1)) ((upm tab (a, d) (.int .i64 ((c0 : Int) + 1))).map (·.1))) := Lib.hid fun k hk => ((upm_mem _ _ _ _).1 hk).elim .inl fun e => .inl (by rw [e]; exact hin)
 have HOK := Lib.hid hok
 have hc9 : c0 ≤ 8000000 := by omega
 have hlb := Nat.le_of_lt hlw
 have hs2 : w.heap.size + 1 < W2.heap.size := heap_lt hb2'
 clear hb1 hb2 hb2' hm1 hm2 hmd hWdb hWdB hWds hgw hgk hg1 hg2 hW1B hW2B hin hv0 hlw hga hgd hcd hd1 hd2 hcm hmv hct hgt hdn hx hy hB hb0 hok hWdS hcb hcl
 subst hWd
 go_enter Try.func35, Try.ntmps35
 go_wp2_with fail
 go_region
 go_wp2_with fail
 have q2 : ((W2.setCell ⟨w.heap.size + 1, 0, none⟩ (.int .i64 0)).setCell ⟨w.heap.size + 1, 1, none⟩ (.string ⟨#[]⟩)).heap[w.heap.size + 1]? = some (.cells #[.int .i64 0, .string ⟨#[]⟩] 27 (0, 0)) := by
  have h1 := heap_setCell_same W2 (w.heap.size + 1) 0 _ _ (.int .i64 0) HBX.out
  have h2 := heap_setCell_same _ (w.heap.size + 1) 1 _ _ (.string ⟨#[]⟩) h1
  simpa using h2
 have HMZ := Lib.hid ((HMVK.out.set (g := w.heap.size + 1) (by omega) (by omega) 0 (.int .i64 0)).set (g := w.heap.size + 1) (by omega) (by omega) 1 (.string ⟨#[]⟩))
 have HMX := Lib.hid ((HMV2.out.set (g := w.heap.size + 1) (by omega) 0 (.int .i64 0)).set (g := w.heap.size + 1) (by omega) 1 (.string ⟨#[]⟩))
 clear z0 z1 z2 z3 f2 f3 m0 m1 m2 w0' w1' y0 y1 e1 e2 e3 e4 e5
 generalize ((W2.setCell ⟨w.heap.size + 1, 0, none⟩ (.int .i64 0)).setCell ⟨w.heap.size + 1, 1, none⟩ (.string ⟨#[]⟩)) = W3 at q2 HMZ HMX ⊢
 have x0 : W3.cell? ⟨w.heap.size + 1, 0, none⟩ = some (.int .i64 0) := (cellH q2 0).trans rfl
 have x1 : W3.cell? ⟨w.heap.size + 1, 1, none⟩ = some (.string ⟨#[]⟩) := (cellH q2 1).trans rfl
 clear q2
 refine bodyPost_ret (by simp [results, Try.results35, go_sem, x0, x1, Result.andThen]; try rfl) rfl ?_
 refine ⟨?_, HMZ.out, fun _ => ⟨_, HMX.out, HCN.out, HG2.out, HDN.out⟩⟩
 have := HOK.out
 cases hm : mt x y with
 | error k => rw [hm] at this; cases this
 | ok l => rfl
end Go.Proofs.Ytagkpcnedccaiaa
