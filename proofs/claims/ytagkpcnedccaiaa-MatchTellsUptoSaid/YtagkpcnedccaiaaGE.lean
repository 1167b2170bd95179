/-
  The walk for what is missed (match.go's missing, its closure): a pair that is begun.
-/
import Derived.Test.YtagkpcnedccaiaaGD
import Derived.Test.YtagkpcnedccaiaaGB
import Derived.Test.YtagkpcnedccaiaaFJ
namespace Go.Proofs.Ytagkpcnedccaiaa
open Go.ChangeShapes Go.WideShapes Go.ChangeAt Go.RowKit Go.Deep
set_option maxRecDepth 20000
set_option linter.unusedVariables false
set_option linter.unusedSimpArgs false

theorem cell_kp {b : Nat} {w w' : World} (h : Kp b w w') {g o : Nat} (hg : g < w.heap.size) (hne : g ≠ b) : w'.cell? ⟨g, o, none⟩ = w.cell? ⟨g, o, none⟩ := by
 have := h.blk g hg hne
 simp only [World.cell?, this]
set_option maxHeartbeats 16000000 in
theorem miss_fresh (w0 w : World) (C b cm : Nat) (a d : Option Nat) (cwb : Nat) (tab : List ((Option Nat × Option Nat) × Value)) (x y : List Bn)
  (hB : Below w0.heap.size w0 w) (hb0 : w0.heap.size ≤ b) (hx : EnvIs w0 (a.bind at0) x) (hy : EnvIs w0 (d.bind at0) y)
  (hcm : w.heap[cm]? = some (.cells #[.map (some b)] 73 (0, 0))) (hmv : MapV pairV w b tab) (hct : Cts tab C) (hC : C + sizes x ≤ 7000000) (hgt : GdT w0 tab) (hdn : Dn w0 (sizes x - 1) (tab.map (·.1))) (hx4 : sizes x ≤ 4000)
  (hin : (a, d) ∉ tab.map (·.1)) (hcw : w.heap[cwb]? = some (.cells #[.func (.func 35) #[] #[.pointer (some ⟨cm, 0, none⟩), .pointer (some ⟨cwb, 0, none⟩)]] 52 (0, 0)))
  (IH : ∀ (x1 y1 : List Bn) (a1 d1 : Option Nat) (w1 : World) (C1 : Nat) (tab1 : List ((Option Nat × Option Nat) × Value)), sizes x1 < sizes x → Below w0.heap.size w0 w1 → EnvIs w0 (a1.bind at0) x1 → EnvIs w0 (d1.bind at0) y1 →
   w1.heap[cm]? = some (.cells #[.map (some b)] 73 (0, 0)) → w1.heap[cwb]? = some (.cells #[.func (.func 35) #[] #[.pointer (some ⟨cm, 0, none⟩), .pointer (some ⟨cwb, 0, none⟩)]] 52 (0, 0)) → MapV pairV w1 b tab1 → Cts tab1 C1 → C1 + sizes x1 ≤ 7000000 → GdT w0 tab1 → Dn w0 (sizes x - 1) (tab1.map (·.1)) →
   Calls Try.prog 35 #[.agg #[.pointer (a1.bind at0), .pointer (d1.bind at0)], .pointer (some ⟨cm, 0, none⟩), .pointer (some ⟨cwb, 0, none⟩)] w1 (MissPost w0 w1 b C1 (tab1.map (·.1)) x1 y1)) :
  Calls Try.prog 35 #[.agg #[.pointer (a.bind at0), .pointer (d.bind at0)], .pointer (some ⟨cm, 0, none⟩), .pointer (some ⟨cwb, 0, none⟩)] w (MissPost w0 w b C (tab.map (·.1)) x y) := by
 obtain ⟨L, hL, hxr⟩ := hx
 obtain ⟨M, hM, hyr⟩ := hy
 have hx : EnvIs w0 (a.bind at0) x := ⟨L, hL, hxr⟩
 have hy : EnvIs w0 (d.bind at0) y := ⟨M, hM, hyr⟩
 have hLl : L.length ≤ 4000 := by have h1 := hxr.len; have h2 := sizes_len x; simp only [List.length_reverse, List.length_map] at h1; omega
 have hga : GoodB w0 a := by have := hx.nO; intro g hg; subst hg; exact this.2 g rfl
 have hgd : GoodB w0 d := by have := hy.nO; intro g hg; subst hg; exact this.2 g rfl
 have hv0 : lkm tab (a, d) = none := (lkm_none tab (a, d)).2 hin
 obtain ⟨Wd, hWd⟩ : ∃ Wd, Wd = ((w.alloc (.cells #[.pointer (a.bind at0), .pointer (d.bind at0)] 54)).alloc (.cells #[.int .i64 0, .string ⟨#[]⟩] 27)).drew := ⟨_, rfl⟩
 have hWdS : Below w.heap.size w Wd := by rw [hWd]; exact (((Below.refl _ _).alloc (Nat.le_refl _) _).alloc (by simp) _).drew
 have hWdB : Below w0.heap.size w0 Wd := hB.trans (hWdS.mono hB.size)
 have hmd := hmv.step hWdS
 have hlw := hmv.lt
 have hcl := heap_lt hcm
 have hcb : cm ≠ b := by
  rintro rfl
  obtain ⟨es, c, h1, _⟩ := hmv
  rw [hcm] at h1; cases h1
 have hWdb : Wd.heap[w.heap.size]? = some (.cells #[.pointer (a.bind at0), .pointer (d.bind at0)] 54 (0, 0)) := by
  rw [hWd]; exact heap_step (heap_new w _) (((Below.refl _ _).alloc (Nat.le_refl _) _).drew)
 have hWds : Wd.heap.size = w.heap.size + 2 := by rw [hWd]; show ((w.alloc _).alloc _).heap.size = _; simp
 have hcd := heap_step hcm hWdS
 have hgw : ∀ k ∈ tab, GoodB Wd k.1.1 ∧ GoodB Wd k.1.2 := hgt.step hWdB
 have hgk : GoodB Wd a ∧ GoodB Wd d := ⟨hga.step hWdB, hgd.step hWdB⟩
 obtain ⟨st, W1, W2, e2, hm1, e4, hm2⟩ := entry_run key71_ok Try.underlying73 Wd b tab hmd hgw (a, d) hgk (zero3 Wd) (.int .i64 1)
 have e1 := look_run key71_ok Try.underlying73 Wd b tab hmd hgw (a, d) hgk (zero3 Wd) false
 have hW1B := hm1.bel _ _ hb0 hWdB
 have hW2B := hm2.bel _ _ hb0 hWdB
 have hg1 : ∀ k ∈ upm tab (a, d) ((lkm tab (a, d)).getD (.int .i64 0)), GoodB W1 k.1.1 ∧ GoodB W1 k.1.2 := GdT.up (hgt.step hW1B) _ _ ⟨hga.step hW1B, hgd.step hW1B⟩
 have hg2 : ∀ k ∈ upm tab (a, d) (.int .i64 1), GoodB W2 k.1.1 ∧ GoodB W2 k.1.2 := GdT.up (hgt.step hW2B) _ _ ⟨hga.step hW2B, hgd.step hW2B⟩
 have e5 := look_run key71_ok Try.underlying73 W2 b _ hm2.map hg2 (a, d) ⟨hga.step hW2B, hgd.step hW2B⟩ (zero3 W2) false
 have e3 := look_run key71_ok Try.underlying73 W1 b _ hm1.map hg1 (a, d) ⟨hga.step hW1B, hgd.step hW1B⟩ (zero3 W1) false
 rw [lkm_up, if_pos rfl] at e3 e5
 rw [hv0] at e1 e2 e3
 simp only [Bool.false_eq_true, if_false, Option.getD, pairV, ptrB] at e1 e2 e3 e4 e5
 have hb2 : W2.heap[w.heap.size]? = some (.cells #[.pointer (a.bind at0), .pointer (d.bind at0)] 54 (0, 0)) := (hm2.kp.blk _ (by rw [hWds]; omega) (by omega)).trans hWdb
 have hb1 : W1.heap[w.heap.size]? = some (.cells #[.pointer (a.bind at0), .pointer (d.bind at0)] 54 (0, 0)) := (hm1.kp.blk _ (by rw [hWds]; omega) (by omega)).trans hWdb
 have hd1 := (hm1.kp.blk cm (by rw [hWds]; omega) hcb).trans hcd
 have hd2 := (hm2.kp.blk cm (by rw [hWds]; omega) hcb).trans hcd
 have w0' : Wd.cell? ⟨w.heap.size, 0, none⟩ = some (.pointer (a.bind at0)) := (cellH hWdb 0).trans rfl
 have w1' : Wd.cell? ⟨w.heap.size, 1, none⟩ = some (.pointer (d.bind at0)) := (cellH hWdb 1).trans rfl
 have y0 : W1.cell? ⟨w.heap.size, 0, none⟩ = some (.pointer (a.bind at0)) := (cellH hb1 0).trans rfl
 have y1 : W1.cell? ⟨w.heap.size, 1, none⟩ = some (.pointer (d.bind at0)) := (cellH hb1 1).trans rfl
 have z0 : W2.cell? ⟨w.heap.size, 0, none⟩ = some (.pointer (a.bind at0)) := (cellH hb2 0).trans rfl
 have z1 : W2.cell? ⟨w.heap.size, 1, none⟩ = some (.pointer (d.bind at0)) := (cellH hb2 1).trans rfl
 have m0 : Wd.cell? ⟨cm, 0, none⟩ = some (.map (some b)) := (cellH hcd 0).trans rfl
 have m1 : W1.cell? ⟨cm, 0, none⟩ = some (.map (some b)) := (cellH hd1 0).trans rfl
 have m2 : W2.cell? ⟨cm, 0, none⟩ = some (.map (some b)) := (cellH hd2 0).trans rfl
 have hb2' : W2.heap[w.heap.size + 1]? = some (.cells #[.int .i64 0, .string ⟨#[]⟩] 27 (0, 0)) := (hm2.kp.blk _ (by rw [hWds]; omega) (by omega)).trans (by
  rw [hWd, show w.heap.size + 1 = (w.alloc (.cells #[.pointer (a.bind at0), .pointer (d.bind at0)] 54)).heap.size by simp]; exact heap_new _ _)
 have z2 : W2.cell? ⟨w.heap.size + 1, 0, none⟩ = some (.int .i64 0) := (cellH hb2' 0).trans rfl
 have z3 : W2.cell? ⟨w.heap.size + 1, 1, none⟩ = some (.string ⟨#[]⟩) := (cellH hb2' 1).trans rfl
 have f2 : W2.frozen? ⟨w.heap.size + 1, 0, none⟩ = false := frozenH hb2' 0
 have f3 : W2.frozen? ⟨w.heap.size + 1, 1, none⟩ = false := frozenH hb2' 1
 have HBX := Lib.hid hb2'
 have HMV2 := Lib.hid hm2.map
 have HMVK := Lib.hid (Mv.trans (Mv.of hWdS (Nat.le_of_lt hlw)) ⟨hm2.kp, hm2.bel⟩)
 have HG2 := Lib.hid (hgt.up (a, d) (.int .i64 1) ⟨hga, hgd⟩)
 have HCN : Hid (Cts (upm tab (a, d) (.int .i64 1)) (C + 1)) := Lib.hid (hct.up (a, d) 1 (by omega) (by omega) (by omega))
 have HD0 : Hid (∀ k, k ∈ (upm tab (a, d) (.int .i64 1)).map (·.1) → k ∈ tab.map (·.1) ∨ k = (a, d)) := Lib.hid fun k hk => (upm_mem _ _ _ _).1 hk
 have HXY := Lib.hid (And.intro hx hy)
 have HRR := Lib.hid (And.intro hxr hyr)
 have HLM := Lib.hid (And.intro hL hM)
 have HIH := Lib.hid IH
 have HC := Lib.hid hC
 have HW2B := Lib.hid hW2B
 have HB0 := Lib.hid hb0
 have HDN : Hid (Dn w0 (sizes x - 1) (tab.map (·.1))) := Lib.hid hdn
 have hcwd := heap_step hcw hWdS
 have hcwl := heap_lt hcw
 have hcwb : cwb ≠ b := by
  rintro rfl
  obtain ⟨es, c, h1, _⟩ := hmv
  rw [hcw] at h1; cases h1
 have HCW := Lib.hid ((hm2.kp.blk cwb (by rw [hWds]; omega) hcwb).trans hcwd)
 have HCM := Lib.hid hd2
 have HBX0 := Lib.hid hb2
 have H36 := Lib.hid (keys_any W2 _ L (hL.step hW2B) (by omega))
 have hs0 : w.heap.size + 2 ≤ W2.heap.size := by have := hm2.kp.size; omega
 have HCMB := Lib.hid hcb
 have HCWB := Lib.hid hcwb
 have hlb : b < w.heap.size := hlw
 have hs2 : w.heap.size + 1 < W2.heap.size := heap_lt hb2'
 clear hb1 hb2 hb2' hm1 hm2 hmd hWdb hWdB hWds hgw hgk hg1 hg2 hW1B hin hlw hga hgd hcd hd1 hd2 hcm hmv hct hgt hdn hx hy hB hb0 hWdS hcb hcl hxr hyr hL hM IH hC hcw hcwd hcwl hcwb hW2B hv0
 subst hWd
 obtain ⟨V, hV⟩ : ∃ V, V = visN x := ⟨_, rfl⟩
 have HVR := Lib.hid (vis_rep HRR.out.1)
 rw [← hV] at HVR
 have HVL : Hid (V.length = (vis ((L.map (·.bi)).reverse)).length) := Lib.hid HVR.out.len
 have HVF : Hid (∀ a' ∈ V, fndN x a'.h.k = some a') := Lib.hid fun a' ha' => fndN_vis (by rw [hV] at ha'; exact ha')
 have HVS : Hid (∀ a' ∈ V, sizes a'.ps < sizes x) := Lib.hid fun a' ha' => size_pv (by rw [hV] at ha'; exact ha')
 have HMT : Hid (mt x y = mtL mt y V) := Lib.hid (by rw [hV]; exact mt_eq x y)
 have HVZ : Hid (sizes V ≤ sizes x) := Lib.hid (by rw [hV]; exact sizes_visN x)
 have hvn : V.length ≤ 4000 := by have := sizes_len V; have := HVZ.out; omega
 have HH37 : Hid (∀ W k, Below w0.heap.size w0 W → Calls Try.prog 37 #[.agg #[.pointer (a.bind at0), .pointer (d.bind at0)], .agg #[.int .i64 k.1, .string k.2]] W (ItemsPost W (look L k) (look M k))) := Lib.hid fun W k hW => items_any W _ _ L M k (HLM.out.1.step hW) (HLM.out.2.step hW)
 have HKL : Hid (((vis ((L.map (·.bi)).reverse)).map (·.k)).length = V.length) := Lib.hid (by rw [List.length_map]; exact HVL.out.symm)
 have HKV : Hid (∀ (k : Nat) (a' : Bn), V[k]? = some a' → ((vis ((L.map (·.bi)).reverse)).map (·.k))[k]? = some a'.h.k) := Lib.hid fun k a' ha' => by
  obtain ⟨b', h1, h2⟩ := HVR.out.get ha'
  rw [List.getElem?_map, h1]; simp [((repB_iff _ _ _).1 h2).1]
 clear hV hLl
 generalize (vis ((L.map (·.bi)).reverse)).map (·.k) = KL at H36 HKL HKV
 have hln : ∀ (W : World) (q : Option Addr) (n c : Nat), (Builtin.len_ #[74] 3 #[.slice q n c]).run Try.prog W = .ok (.int .i64 n) W := fun W q n c => rfl
 go_enter Try.func35, Try.ntmps35
 go_wp2_with fail
 go_region
 go_wp2_with (go_at_call 36; refine H36.out.mono ?_; rintro e w1 ⟨v1, rfl, ho1, hb1⟩; have HO1 := Lib.hid ho1; have HB1 := Lib.hid hb1; obtain ⟨q1, n1, c1, rfl, hn1, hk1⟩ : ∃ q1 n1 c1, v1 = .slice q1 n1 c1 ∧ n1 = V.length ∧ (n1 = 0 ∨ ∃ g, q1 = some ⟨g, 0, none⟩ ∧ W2.heap.size ≤ g ∧ g < w1.heap.size ∧ n1 ≤ c1 ∧ ∀ i k, KL[i]? = some k → KyAt w1 g i k) := (by
   rcases ho1.slice with ⟨h1, h2⟩ | ⟨g, c, h1, h2, h3, h4⟩
   ·exact ⟨none, 0, 0, h1, by rw [← HKL.out, h2]; rfl, .inl rfl⟩
   ·subst h1; exact ⟨_, _, _, rfl, HKL.out, .inr ⟨g, rfl, h2, h3, h4, fun i k hi => ho1.at_ i k hi⟩⟩); have HN1 := Lib.hid hn1; have HK1 := Lib.hid hk1; clear ho1 hb1 hk1)
 have hn4 : n1 ≤ 4000 := by omega
 have HT3 := Lib.hid (heap_step HBX0.out HB1.out)
 have HT4 := Lib.hid (heap_step HBX.out HB1.out)
 have HTM := Lib.hid (heap_step HCM.out HB1.out)
 have HTW := Lib.hid (heap_step HCW.out HB1.out)
 have hw12 : w.heap.size + 2 ≤ w1.heap.size := by have := HB1.out.size; omega
 have HMVa := Lib.hid (Mv.trans HMVK.out (Mv.of HB1.out (by omega)))
 go_loopw [28] (fun i wr => ∃ (k : Nat) (tb : List ((Option Nat × Option Nat) × Value)), k ≤ n1 ∧ i = .int .i64 k ∧ Hid (MapV pairV wr b tb) ∧ Hid (Cts tb (C + 1 + sizes (V.take k))) ∧ Hid (GdT w0 tb) ∧ Hid (New2 w0 ((upm tab (a, d) (.int .i64 1)).map (·.1)) (tb.map (·.1))) ∧ Hid (Mv b w1 wr) ∧ Hid (Below w0.heap.size w0 wr) ∧
   Hid (∀ (i : Nat) (c : Bn), i < k → V[i]? = some c → ∃ z, fndN y c.h.k = some z ∧ (c.h.k.1 = 4 → isOk (mt c.ps z.ps) = true))) (fun i _ => n1 - (intOf i).toNat)
 case atStart => exact ⟨0, _, by omega, rfl, Lib.hid (HMV2.out.step HB1.out), Lib.hid (by simpa [sizes] using HCN.out), HG2, Lib.hid (fun k hk => .inl hk), Lib.hid (Mv.of (Below.refl _ _) (by have := HB1.out.size; omega)), Lib.hid (HW2B.out.trans (HB1.out.mono HW2B.out.size)), Lib.hid (fun i c hi => by omega)⟩
 case round =>
  obtain ⟨k, tb, hk, rfl, HMVr, HCTr, HGTr, HNWr, HMKr, HBr, HPRr⟩ := hrel
  have g3 := (HMKr.out.kp.blk w.heap.size (heap_lt HT3.out) (by omega)).trans HT3.out
  have g4 := (HMKr.out.kp.blk (w.heap.size + 1) (heap_lt HT4.out) (by omega)).trans HT4.out
  have q40 : wr.cell? ⟨w.heap.size + 1, 0, none⟩ = some (.int .i64 0) := (cellH g4 0).trans rfl
  have q41 : wr.cell? ⟨w.heap.size + 1, 1, none⟩ = some (.string ⟨#[]⟩) := (cellH g4 1).trans rfl
  have f40 : wr.frozen? ⟨w.heap.size + 1, 0, none⟩ = false := frozenH g4 0
  have f41 : wr.frozen? ⟨w.heap.size + 1, 1, none⟩ = false := frozenH g4 1
  have HG4 := Lib.hid g4
  have HG3 := Lib.hid g3
  clear g3 g4
  by_cases hlt : k < n1
  ·obtain h0 | ⟨gk, rfl, hgk1, hgk2, hgc, hkat⟩ := HK1.out
   ·omega
   obtain ⟨a', ha'⟩ : ∃ a', V[k]? = some a' := ⟨_, List.getElem?_eq_getElem (by omega)⟩
   have ham := List.mem_of_getElem? ha'
   obtain ⟨u0, u1⟩ := hkat k _ (HKV.out k a' ha')
   have u0' : wr.cell? ⟨gk, k * 2, none⟩ = some (.int .i64 a'.h.k.1) := (cell_kp HMKr.out.kp hgk2 (by omega)).trans u0
   have u1' : wr.cell? ⟨gk, k * 2 + 1, none⟩ = some (.string a'.h.k.2) := (cell_kp HMKr.out.kp hgk2 (by omega)).trans u1
   have hbl := look_rep HRR.out.1 a'.h.k
   rw [HVF.out a' ham] at hbl
   obtain ⟨bd, hbd, hbr⟩ : ∃ bd, look L a'.h.k = some bd ∧ RepB w0 a' bd.bi := by
    cases hq : look L a'.h.k with
    | none => rw [hq] at hbl; exact hbl.elim
    | some bd => rw [hq] at hbl; exact ⟨bd, rfl, hbl⟩
   have hbm := look_rep HRR.out.2 a'.h.k
   have H37 := Lib.hid (fun W hW => HH37.out W a'.h.k hW)
   rw [hbd] at H37
   have hwr : w.heap.size + 2 ≤ wr.heap.size := by have := HMKr.out.kp.size; omega
   have hw3 : w.heap.size < wr.heap.size := by omega
   have hw4 : w.heap.size + 1 < wr.heap.size := by omega
   have hgr : gk < wr.heap.size := Nat.lt_of_lt_of_le hgk2 HMKr.out.kp.size
   have r1 : (0 : Int) ≤ (k : Int) := by omega
   have r2 : (k : Int) < (n1 : Int) := by omega
   have p0 : wr.cell? ⟨w.heap.size, 0, none⟩ = some (.pointer (a.bind at0)) := (cellH HG3.out 0).trans rfl
   have p1 : wr.cell? ⟨w.heap.size, 1, none⟩ = some (.pointer (d.bind at0)) := (cellH HG3.out 1).trans rfl
   clear u0 u1 hkat
   cases hM : look M a'.h.k with
   | none =>
    rw [hM] at hbm H37
    have HFN : Hid (fndN y a'.h.k = none) := Lib.hid (by
     cases hq : fndN y a'.h.k with
     | none => rfl
     | some z => rw [hq] at hbm; exact hbm.elim)
    have HER : Hid (mt x y = .error a'.h.k) := Lib.hid (by rw [HMT.out]; exact mtL_at HPRr.out ha' (.inl ⟨HFN.out, rfl⟩))
    have H37' : Hid (∀ W, Below w0.heap.size w0 W → Calls Try.prog 37 #[.agg #[.pointer (a.bind at0), .pointer (d.bind at0)], .agg #[.int .i64 a'.h.k.1, .string a'.h.k.2]] W fun e w' => e = .returned (.tuple #[.agg #[.int .i64 bd.bi.dc, .int .i64 bd.bi.via, .pointer bd.bi.pa, .pointer bd.bi.pm], .agg #[.int .i64 0, .int .i64 0, .pointer none, .pointer none], .bool false]) ∧ Below W.heap.size W w') := Lib.hid fun W hW => H37.out W hW
    clear hbl hbm hbr hbd hM H37
    generalize bd.bi = bi at *
    generalize a'.h.k = key at *
    go_wp2_with (go_at_call 37; refine (H37'.out _ (HBr.out.alloc HBr.out.size _)).mono ?_; rintro e w2 ⟨rfl, hb2⟩; have HB2 := Lib.hid (((Below.refl _ _).alloc (Nat.le_refl _) _).trans (hb2.mono (by simp))); have g7 := heap_step (heap_new wr (.cells #[.int .i64 key.1, .string key.2] 27)) hb2; have k70 : w2.cell? ⟨wr.heap.size, 0, none⟩ = some (.int .i64 key.1) := (cellH g7 0).trans rfl; have k71 : w2.cell? ⟨wr.heap.size, 1, none⟩ = some (.string key.2) := (cellH g7 1).trans rfl; have g4 := heap_step (heap_step HG4.out ((Below.refl _ _).alloc (Nat.le_refl _) (.cells #[.int .i64 key.1, .string key.2] 27))) hb2; have HG4b := Lib.hid g4; have g5 := heap_step g4 (((Below.refl _ _).alloc (Nat.le_refl _) (.cells #[.int .i64 bi.dc, .int .i64 bi.via, .pointer bi.pa, .pointer bi.pm] 58)).alloc (by simp) (.cells #[.int .i64 0, .int .i64 0, .pointer none, .pointer none] 58)); have j40 : ((w2.alloc (.cells #[.int .i64 bi.dc, .int .i64 bi.via, .pointer bi.pa, .pointer bi.pm] 58)).alloc (.cells #[.int .i64 0, .int .i64 0, .pointer none, .pointer none] 58)).cell? ⟨w.heap.size + 1, 0, none⟩ = some (.int .i64 0) := (cellH g5 0).trans rfl; have j41 : ((w2.alloc (.cells #[.int .i64 bi.dc, .int .i64 bi.via, .pointer bi.pa, .pointer bi.pm] 58)).alloc (.cells #[.int .i64 0, .int .i64 0, .pointer none, .pointer none] 58)).cell? ⟨w.heap.size + 1, 1, none⟩ = some (.string ⟨#[]⟩) := (cellH g5 1).trans rfl; have jf0 : ((w2.alloc (.cells #[.int .i64 bi.dc, .int .i64 bi.via, .pointer bi.pa, .pointer bi.pm] 58)).alloc (.cells #[.int .i64 0, .int .i64 0, .pointer none, .pointer none] 58)).frozen? ⟨w.heap.size + 1, 0, none⟩ = false := frozenH g5 0; have jf1 : ((w2.alloc (.cells #[.int .i64 bi.dc, .int .i64 bi.via, .pointer bi.pa, .pointer bi.pm] 58)).alloc (.cells #[.int .i64 0, .int .i64 0, .pointer none, .pointer none] 58)).frozen? ⟨w.heap.size + 1, 1, none⟩ = false := frozenH g5 1; clear g5; have s7 := heap_lt g7; have s4 := heap_lt g4; clear hb2 g7 g4)
    have q2 : (((w2.alloc (.cells #[.int .i64 bi.dc, .int .i64 bi.via, .pointer bi.pa, .pointer bi.pm] 58)).alloc (.cells #[.int .i64 0, .int .i64 0, .pointer none, .pointer none] 58)).setCell ⟨w.heap.size + 1, 0, none⟩ (.int .i64 key.1) |>.setCell ⟨w.heap.size + 1, 1, none⟩ (.string key.2)).heap[w.heap.size + 1]? = some (.cells #[.int .i64 key.1, .string key.2] 27 (0, 0)) := by
     have h0 := heap_step HG4b.out (((Below.refl _ _).alloc (Nat.le_refl _) (.cells #[.int .i64 bi.dc, .int .i64 bi.via, .pointer bi.pa, .pointer bi.pm] 58)).alloc (by simp) (.cells #[.int .i64 0, .int .i64 0, .pointer none, .pointer none] 58))
     have h1 := heap_setCell_same _ (w.heap.size + 1) 0 _ _ (.int .i64 key.1) h0
     have h2 := heap_setCell_same _ (w.heap.size + 1) 1 _ _ (.string key.2) h1
     simpa using h2
    have HMZ := Lib.hid (((Mv.trans (Mv.trans (Mv.trans HMVa.out HMKr.out) (Mv.of HB2.out (by omega))) (Mv.of (((Below.refl _ _).alloc (Nat.le_refl _) (.cells #[.int .i64 bi.dc, .int .i64 bi.via, .pointer bi.pa, .pointer bi.pm] 58)).alloc (by simp) (.cells #[.int .i64 0, .int .i64 0, .pointer none, .pointer none] 58)) (by omega))).set (g := w.heap.size + 1) (by omega) (by omega) 0 (.int .i64 key.1)).set (g := w.heap.size + 1) (by omega) (by omega) 1 (.string key.2))
    clear j40 j41 jf0 jf1 k70 k71 p0 p1 q40 q41 f40 f41 u0' u1'
    generalize (((w2.alloc (.cells #[.int .i64 bi.dc, .int .i64 bi.via, .pointer bi.pa, .pointer bi.pm] 58)).alloc (.cells #[.int .i64 0, .int .i64 0, .pointer none, .pointer none] 58)).setCell ⟨w.heap.size + 1, 0, none⟩ (.int .i64 key.1) |>.setCell ⟨w.heap.size + 1, 1, none⟩ (.string key.2)) = W3 at q2 HMZ ⊢
    have x0 : W3.cell? ⟨w.heap.size + 1, 0, none⟩ = some (.int .i64 key.1) := (cellH q2 0).trans rfl
    have x1 : W3.cell? ⟨w.heap.size + 1, 1, none⟩ = some (.string key.2) := (cellH q2 1).trans rfl
    clear q2
    try simp only [Exit.inBlock, Exit.then]
    refine bodyPost_ret (by simp [results, Try.results35, go_sem, x0, x1, Result.andThen]; try rfl) rfl ?_
    refine ⟨by rw [HER.out]; rfl, HMZ.out, fun ho => ?_⟩
    rw [HER.out] at ho; cases ho
   | some bd2 =>
    rw [hM] at hbm H37
    obtain ⟨z, hz, hzr⟩ : ∃ z, fndN y a'.h.k = some z ∧ RepB w0 z bd2.bi := by
     cases hq : fndN y a'.h.k with
     | none => rw [hq] at hbm; exact hbm.elim
     | some z => rw [hq] at hbm; exact ⟨z, rfl, hbm⟩
    have HZ := Lib.hid hz
    have HP1 := Lib.hid ((repB_iff _ _ _).1 hbr).2.2.2.1
    have HP2 := Lib.hid ((repB_iff _ _ _).1 hzr).2.2.2.1
    have H37' : Hid (∀ W, Below w0.heap.size w0 W → Calls Try.prog 37 #[.agg #[.pointer (a.bind at0), .pointer (d.bind at0)], .agg #[.int .i64 a'.h.k.1, .string a'.h.k.2]] W fun e w' => e = .returned (.tuple #[.agg #[.int .i64 bd.bi.dc, .int .i64 bd.bi.via, .pointer bd.bi.pa, .pointer bd.bi.pm], .agg #[.int .i64 bd2.bi.dc, .int .i64 bd2.bi.via, .pointer bd2.bi.pa, .pointer bd2.bi.pm], .bool true]) ∧ Below W.heap.size W w') := Lib.hid fun W hW => H37.out W hW
    have HA' := Lib.hid ha'
    have HSA : Hid (sizes (V.take (k + 1)) = sizes (V.take k) + a'.size) := Lib.hid (by
     rw [List.take_add_one, ha']
     have happ : ∀ a b : List Bn, sizes (a ++ b) = sizes a + sizes b := fun a b => by
      induction a with
      | nil => simp [sizes]
      | cons x r ih => simp only [List.cons_append, sizes, ih]; omega
     rw [happ]; simp [sizes])
    have HSE := Lib.hid a'.size_eq
    clear hbl hbm hbr hbd hM H37 hzr hz ha'
    generalize bd.bi = bi at *
    generalize bd2.bi = bj at *
    obtain ⟨key, hkey⟩ : ∃ key, key = a'.h.k := ⟨_, rfl⟩
    have HKY := Lib.hid hkey
    rw [← hkey] at u0' u1' H37'
    have HNEXT : Hid ((key.1 = 4 → isOk (mt a'.ps z.ps) = true) → ∀ (i : Nat) (c : Bn), i < k + 1 → V[i]? = some c → ∃ z, fndN y c.h.k = some z ∧ (c.h.k.1 = 4 → isOk (mt c.ps z.ps) = true)) := Lib.hid fun hok i c hi hc => by
     by_cases hik : i < k
     ·exact HPRr.out i c hik hc
     ·obtain rfl : i = k := by omega
      rw [HA'.out] at hc
      obtain rfl := Option.some.inj hc
      exact ⟨z, HZ.out, by rw [← HKY.out]; exact hok⟩
    clear hkey
    by_cases h4 : key.1 = 4
    ·obtain ⟨bk, bc, bv, bp, bm⟩ := bi
     obtain ⟨ck, cc, cv, cp, cn⟩ := bj
     dsimp only at H37' HP1 HP2
     obtain ⟨ks, kn⟩ := key
     dsimp only at h4 u0' u1' H37'
     subst h4
     obtain ⟨a1, ha1⟩ : ∃ a1, bp = a1.bind at0 := ⟨nO bp, HP1.out.nO.1⟩
     obtain ⟨d1, hd1⟩ : ∃ d1, cp = d1.bind at0 := ⟨nO cp, HP2.out.nO.1⟩
     subst ha1
     subst hd1
     have HTMr := Lib.hid ((HMKr.out.kp.blk cm (heap_lt HTM.out) HCMB.out).trans HTM.out)
     have HTWr := Lib.hid ((HMKr.out.kp.blk cwb (heap_lt HTW.out) HCWB.out).trans HTW.out)
     have hps := HVS.out a' ham
     have HTK : Hid (sizes (V.take (k + 1)) ≤ sizes x) := Lib.hid (Nat.le_trans (by
      have happ : ∀ a b : List Bn, sizes (a ++ b) = sizes a + sizes b := fun a b => by
       induction a with
       | nil => simp [sizes]
       | cons x r ih => simp only [List.cons_append, sizes, ih]; omega
      have := happ (V.take (k + 1)) (V.drop (k + 1))
      rw [List.take_append_drop] at this
      omega) HVZ.out)
     have HDNr : Hid (Dn w0 (sizes x - 1) (tb.map (·.1))) := Lib.hid ((HDN.out.begin (k0 := (a, d)) HXY.out.1 (by omega) HD0.out).new HNWr.out)
     have HCALL : Hid (∀ W, Below w0.heap.size w0 W → W.heap[cm]? = some (.cells #[.map (some b)] 73 (0, 0)) → W.heap[cwb]? = some (.cells #[.func (.func 35) #[] #[.pointer (some ⟨cm, 0, none⟩), .pointer (some ⟨cwb, 0, none⟩)]] 52 (0, 0)) → MapV pairV W b tb →
       Calls Try.prog 35 #[.agg #[.pointer (a1.bind at0), .pointer (d1.bind at0)], .pointer (some ⟨cm, 0, none⟩), .pointer (some ⟨cwb, 0, none⟩)] W (MissPost w0 W b (C + 1 + sizes (V.take k)) (tb.map (·.1)) a'.ps z.ps)) := Lib.hid fun W h1 h2 h3 h4 =>
      HIH.out a'.ps z.ps a1 d1 W _ tb hps h1 HP1.out HP2.out h2 h3 h4 HCTr.out (by have := HC.out; have := HTK.out; have := HSA.out; have := HSE.out; omega) HGTr.out HDNr.out
     have HK4 : Hid (a'.h.k.1 = 4) := Lib.hid (by rw [← HKY.out])
     cases hm : mt a'.ps z.ps with
     | error kk =>
      have HER : Hid (mt x y = .error kk) := Lib.hid (by rw [HMT.out]; exact mtL_at HPRr.out HA'.out (.inr ⟨z, HZ.out, HK4.out, hm⟩))
      have HCALL' : Hid (∀ W, Below w0.heap.size w0 W → W.heap[cm]? = some (.cells #[.map (some b)] 73 (0, 0)) → W.heap[cwb]? = some (.cells #[.func (.func 35) #[] #[.pointer (some ⟨cm, 0, none⟩), .pointer (some ⟨cwb, 0, none⟩)]] 52 (0, 0)) → MapV pairV W b tb → Calls Try.prog 35 #[.agg #[.pointer (a1.bind at0), .pointer (d1.bind at0)], .pointer (some ⟨cm, 0, none⟩), .pointer (some ⟨cwb, 0, none⟩)] W fun e w' => e = .returned (.tuple #[.agg #[.int .i64 kk.1, .string kk.2], .bool true]) ∧ Mv b W w') := Lib.hid fun W h1 h2 h3 h4 => (HCALL.out W h1 h2 h3 h4).mono fun e w' hp => ⟨by have := hp.1; rw [hm] at this; exact this, hp.2.1⟩
      go_wp2_with (first
       | (go_at_call 37; refine (H37'.out _ (HBr.out.alloc HBr.out.size _)).mono ?_; rintro e w2 ⟨rfl, hb2⟩; have hb2x := True.intro; have HB2 := Lib.hid (((Below.refl _ _).alloc (Nat.le_refl _) _).trans (hb2.mono (by simp))); have g7 := heap_step (heap_new wr (.cells #[.int .i64 4, .string kn] 27)) hb2; have k70 : w2.cell? ⟨wr.heap.size, 0, none⟩ = some (.int .i64 4) := (cellH g7 0).trans rfl; have k71 : w2.cell? ⟨wr.heap.size, 1, none⟩ = some (.string kn) := (cellH g7 1).trans rfl; have s7 := heap_lt g7; have GW := heap_step HTWr.out HB2.out; have cw0 : w2.cell? ⟨cwb, 0, none⟩ = some (.func (.func 35) #[] #[.pointer (some ⟨cm, 0, none⟩), .pointer (some ⟨cwb, 0, none⟩)]) := (cellH GW 0).trans rfl; have cwl := heap_lt GW; have HWA := Lib.hid (heap_step GW (((Below.refl _ _).alloc (Nat.le_refl _) (.cells #[.int .i64 bc, .int .i64 bv, .pointer (a1.bind at0), .pointer bm] 58)).alloc (by simp) (.cells #[.int .i64 cc, .int .i64 cv, .pointer (d1.bind at0), .pointer cn] 58))); have HMA := Lib.hid (heap_step (heap_step HTMr.out HB2.out) (((Below.refl _ _).alloc (Nat.le_refl _) (.cells #[.int .i64 bc, .int .i64 bv, .pointer (a1.bind at0), .pointer bm] 58)).alloc (by simp) (.cells #[.int .i64 cc, .int .i64 cv, .pointer (d1.bind at0), .pointer cn] 58))); have HT4A := Lib.hid (heap_step (heap_step HG4.out HB2.out) (((Below.refl _ _).alloc (Nat.le_refl _) (.cells #[.int .i64 bc, .int .i64 bv, .pointer (a1.bind at0), .pointer bm] 58)).alloc (by simp) (.cells #[.int .i64 cc, .int .i64 cv, .pointer (d1.bind at0), .pointer cn] 58))); have HMVA := Lib.hid ((HMVr.out.step HB2.out).step (((Below.refl _ _).alloc (Nat.le_refl _) (.cells #[.int .i64 bc, .int .i64 bv, .pointer (a1.bind at0), .pointer bm] 58)).alloc (by simp) (.cells #[.int .i64 cc, .int .i64 cv, .pointer (d1.bind at0), .pointer cn] 58))); have HBA := Lib.hid ((HBr.out.trans (HB2.out.mono HBr.out.size)).trans ((((Below.refl _ _).alloc (Nat.le_refl _) (.cells #[.int .i64 bc, .int .i64 bv, .pointer (a1.bind at0), .pointer bm] 58)).alloc (by simp) (.cells #[.int .i64 cc, .int .i64 cv, .pointer (d1.bind at0), .pointer cn] 58)).mono (by have := HBr.out.size; omega))); have HMvA := Lib.hid (Mv.trans (Mv.trans HMKr.out (Mv.of HB2.out (by omega))) (Mv.of (((Below.refl _ _).alloc (Nat.le_refl _) (.cells #[.int .i64 bc, .int .i64 bv, .pointer (a1.bind at0), .pointer bm] 58)).alloc (by simp) (.cells #[.int .i64 cc, .int .i64 cv, .pointer (d1.bind at0), .pointer cn] 58)) (by omega))); clear hb2 g7 GW hb2x)
       | (go_at_call 35; refine (HCALL'.out ((w2.alloc (.cells #[.int .i64 bc, .int .i64 bv, .pointer (a1.bind at0), .pointer bm] 58)).alloc (.cells #[.int .i64 cc, .int .i64 cv, .pointer (d1.bind at0), .pointer cn] 58)) HBA.out HMA.out HWA.out HMVA.out).mono ?_; rintro e w3 ⟨rfl, hmv3⟩; have HMV3 := Lib.hid hmv3; have g4 := (hmv3.kp.blk (w.heap.size + 1) (heap_lt HT4A.out) (by omega)).trans HT4A.out; have g5 := heap_step g4 ((Below.refl _ _).alloc (Nat.le_refl _) (.cells #[.int .i64 kk.1, .string kk.2] 27)); have HG5 := Lib.hid g5; have HG43 := Lib.hid g4; have s43 := heap_lt g4; have jj0 : w3.cell? ⟨w.heap.size + 1, 0, none⟩ = some (.int .i64 0) := (cellH g4 0).trans rfl; have jj1 : w3.cell? ⟨w.heap.size + 1, 1, none⟩ = some (.string ⟨#[]⟩) := (cellH g4 1).trans rfl; have jg0 : w3.frozen? ⟨w.heap.size + 1, 0, none⟩ = false := frozenH g4 0; have jg1 : w3.frozen? ⟨w.heap.size + 1, 1, none⟩ = false := frozenH g4 1; have j40 : (w3.alloc (.cells #[.int .i64 kk.1, .string kk.2] 27)).cell? ⟨w.heap.size + 1, 0, none⟩ = some (.int .i64 0) := (cellH g5 0).trans rfl; have j41 : (w3.alloc (.cells #[.int .i64 kk.1, .string kk.2] 27)).cell? ⟨w.heap.size + 1, 1, none⟩ = some (.string ⟨#[]⟩) := (cellH g5 1).trans rfl; have jf0 : (w3.alloc (.cells #[.int .i64 kk.1, .string kk.2] 27)).frozen? ⟨w.heap.size + 1, 0, none⟩ = false := frozenH g5 0; have jf1 : (w3.alloc (.cells #[.int .i64 kk.1, .string kk.2] 27)).frozen? ⟨w.heap.size + 1, 1, none⟩ = false := frozenH g5 1; clear hmv3 g4 g5))
      have q2 : (((w3.setCell ⟨w.heap.size + 1, 0, none⟩ (.int .i64 kk.1)).setCell ⟨w.heap.size + 1, 1, none⟩ (.string kk.2)).alloc (.cells #[.int .i64 kk.1, .string kk.2] 27)).heap[w.heap.size + 1]? = some (.cells #[.int .i64 kk.1, .string kk.2] 27 (0, 0)) := by
       have h1 := heap_setCell_same _ (w.heap.size + 1) 0 _ _ (.int .i64 kk.1) HG43.out
       have h2 := heap_setCell_same _ (w.heap.size + 1) 1 _ _ (.string kk.2) h1
       exact heap_step (by simpa using h2) ((Below.refl _ _).alloc (Nat.le_refl _) _)
      have HMZ0 := Lib.hid ((((Mv.trans HMVa.out HMvA.out).trans HMV3.out).set (g := w.heap.size + 1) (by omega) (by omega) 0 (.int .i64 kk.1)).set (g := w.heap.size + 1) (by omega) (by omega) 1 (.string kk.2))
      have HMZ := Lib.hid (HMZ0.out.trans (Mv.of ((Below.refl _ _).alloc (Nat.le_refl _) (.cells #[.int .i64 kk.1, .string kk.2] 27)) (by simp; omega)))
      clear j40 j41 jf0 jf1 jj0 jj1 jg0 jg1 k70 k71 p0 p1 q40 q41 f40 f41 u0' u1' HMZ0
      generalize (((w3.setCell ⟨w.heap.size + 1, 0, none⟩ (.int .i64 kk.1)).setCell ⟨w.heap.size + 1, 1, none⟩ (.string kk.2)).alloc (.cells #[.int .i64 kk.1, .string kk.2] 27)) = W3 at q2 HMZ ⊢
      have x0 : W3.cell? ⟨w.heap.size + 1, 0, none⟩ = some (.int .i64 kk.1) := (cellH q2 0).trans rfl
      have x1 : W3.cell? ⟨w.heap.size + 1, 1, none⟩ = some (.string kk.2) := (cellH q2 1).trans rfl
      clear q2
      try simp only [Exit.inBlock, Exit.then]
      refine bodyPost_ret (by simp [results, Try.results35, go_sem, x0, x1, Result.andThen]; try rfl) rfl ?_
      refine ⟨by rw [HER.out]; rfl, HMZ.out, fun ho => ?_⟩
      rw [HER.out] at ho; cases ho
     | ok lk =>
      have HCALL' : Hid (∀ W, Below w0.heap.size w0 W → W.heap[cm]? = some (.cells #[.map (some b)] 73 (0, 0)) → W.heap[cwb]? = some (.cells #[.func (.func 35) #[] #[.pointer (some ⟨cm, 0, none⟩), .pointer (some ⟨cwb, 0, none⟩)]] 52 (0, 0)) → MapV pairV W b tb → Calls Try.prog 35 #[.agg #[.pointer (a1.bind at0), .pointer (d1.bind at0)], .pointer (some ⟨cm, 0, none⟩), .pointer (some ⟨cwb, 0, none⟩)] W fun e w' => e = .returned (.tuple #[.agg #[.int .i64 0, .string ⟨#[]⟩], .bool false]) ∧ Mv b W w' ∧ ∃ tb3, MapV pairV w' b tb3 ∧ Cts tb3 (C + 1 + sizes (V.take k) + sizes a'.ps + 1) ∧ GdT w0 tb3 ∧ New2 w0 (tb.map (·.1)) (tb3.map (·.1))) := Lib.hid fun W h1 h2 h3 h4 => (HCALL.out W h1 h2 h3 h4).mono fun e w' hp => ⟨by have := hp.1; rw [hm] at this; exact this, hp.2.1, hp.2.2 (by rw [hm]; rfl)⟩
      go_wp2_with (first
       | (go_at_call 37; refine (H37'.out _ (HBr.out.alloc HBr.out.size _)).mono ?_; rintro e w2 ⟨rfl, hb2⟩; have hb2x := True.intro; have HB2 := Lib.hid (((Below.refl _ _).alloc (Nat.le_refl _) _).trans (hb2.mono (by simp))); have g7 := heap_step (heap_new wr (.cells #[.int .i64 4, .string kn] 27)) hb2; have k70 : w2.cell? ⟨wr.heap.size, 0, none⟩ = some (.int .i64 4) := (cellH g7 0).trans rfl; have k71 : w2.cell? ⟨wr.heap.size, 1, none⟩ = some (.string kn) := (cellH g7 1).trans rfl; have s7 := heap_lt g7; have GW := heap_step HTWr.out HB2.out; have cw0 : w2.cell? ⟨cwb, 0, none⟩ = some (.func (.func 35) #[] #[.pointer (some ⟨cm, 0, none⟩), .pointer (some ⟨cwb, 0, none⟩)]) := (cellH GW 0).trans rfl; have cwl := heap_lt GW; have HWA := Lib.hid (heap_step GW (((Below.refl _ _).alloc (Nat.le_refl _) (.cells #[.int .i64 bc, .int .i64 bv, .pointer (a1.bind at0), .pointer bm] 58)).alloc (by simp) (.cells #[.int .i64 cc, .int .i64 cv, .pointer (d1.bind at0), .pointer cn] 58))); have HMA := Lib.hid (heap_step (heap_step HTMr.out HB2.out) (((Below.refl _ _).alloc (Nat.le_refl _) (.cells #[.int .i64 bc, .int .i64 bv, .pointer (a1.bind at0), .pointer bm] 58)).alloc (by simp) (.cells #[.int .i64 cc, .int .i64 cv, .pointer (d1.bind at0), .pointer cn] 58))); have HT4A := Lib.hid (heap_step (heap_step HG4.out HB2.out) (((Below.refl _ _).alloc (Nat.le_refl _) (.cells #[.int .i64 bc, .int .i64 bv, .pointer (a1.bind at0), .pointer bm] 58)).alloc (by simp) (.cells #[.int .i64 cc, .int .i64 cv, .pointer (d1.bind at0), .pointer cn] 58))); have HMVA := Lib.hid ((HMVr.out.step HB2.out).step (((Below.refl _ _).alloc (Nat.le_refl _) (.cells #[.int .i64 bc, .int .i64 bv, .pointer (a1.bind at0), .pointer bm] 58)).alloc (by simp) (.cells #[.int .i64 cc, .int .i64 cv, .pointer (d1.bind at0), .pointer cn] 58))); have HBA := Lib.hid ((HBr.out.trans (HB2.out.mono HBr.out.size)).trans ((((Below.refl _ _).alloc (Nat.le_refl _) (.cells #[.int .i64 bc, .int .i64 bv, .pointer (a1.bind at0), .pointer bm] 58)).alloc (by simp) (.cells #[.int .i64 cc, .int .i64 cv, .pointer (d1.bind at0), .pointer cn] 58)).mono (by have := HBr.out.size; omega))); have HMvA := Lib.hid (Mv.trans (Mv.trans HMKr.out (Mv.of HB2.out (by omega))) (Mv.of (((Below.refl _ _).alloc (Nat.le_refl _) (.cells #[.int .i64 bc, .int .i64 bv, .pointer (a1.bind at0), .pointer bm] 58)).alloc (by simp) (.cells #[.int .i64 cc, .int .i64 cv, .pointer (d1.bind at0), .pointer cn] 58)) (by omega))); clear hb2 g7 GW hb2x)
       | (go_at_call 35; refine (HCALL'.out ((w2.alloc (.cells #[.int .i64 bc, .int .i64 bv, .pointer (a1.bind at0), .pointer bm] 58)).alloc (.cells #[.int .i64 cc, .int .i64 cv, .pointer (d1.bind at0), .pointer cn] 58)) HBA.out HMA.out HWA.out HMVA.out).mono ?_; rintro e w3 ⟨rfl, hmv3, tb3, hm3, hc3, hg3, hn3⟩; have HMV3 := Lib.hid hmv3; have HB3 := Lib.hid (hmv3.bel _ _ HB0.out HBA.out); have HM3 := Lib.hid hm3; have HC3 := Lib.hid hc3; have HGT3 := Lib.hid hg3; have HN3 := Lib.hid hn3; clear hmv3 hm3 hc3 hg3 hn3))
      go_roundw
      case rel => exact ⟨k + 1, tb3, by omega, by go_num, Lib.hid (HM3.out.step ((Below.refl _ _).alloc (Nat.le_refl _) _)), Lib.hid (fun k' v hv => by
       obtain ⟨c, h1, h2, h3⟩ := HC3.out k' v hv
       have := HSA.out
       have := HSE.out
       exact ⟨c, h1, h2, by omega⟩), HGT3, Lib.hid (HNWr.out.trans HN3.out), Lib.hid ((HMvA.out.trans HMV3.out).trans (Mv.of ((Below.refl _ _).alloc (Nat.le_refl _) _) (by have := HM3.out.lt; omega))), Lib.hid (HB3.out.alloc HB3.out.size _), Lib.hid (HNEXT.out fun h => by rw [hm]; rfl)⟩
      case measure => simp [intOf]; omega
    ·go_wp2_with (go_at_call 37; refine (H37'.out _ (HBr.out.alloc HBr.out.size _)).mono ?_; rintro e w2 ⟨rfl, hb2⟩; have HB2 := Lib.hid (((Below.refl _ _).alloc (Nat.le_refl _) _).trans (hb2.mono (by simp))); have g7 := heap_step (heap_new wr (.cells #[.int .i64 key.1, .string key.2] 27)) hb2; have k70 : w2.cell? ⟨wr.heap.size, 0, none⟩ = some (.int .i64 key.1) := (cellH g7 0).trans rfl; have k71 : w2.cell? ⟨wr.heap.size, 1, none⟩ = some (.string key.2) := (cellH g7 1).trans rfl; have s7 := heap_lt g7; clear hb2 g7)
     go_roundw
     case rel => exact ⟨k + 1, tb, by omega, by go_num, Lib.hid ((HMVr.out.step HB2.out).step (((Below.refl _ _).alloc (Nat.le_refl _) (.cells #[.int .i64 bi.dc, .int .i64 bi.via, .pointer bi.pa, .pointer bi.pm] 58)).alloc (by simp) (.cells #[.int .i64 bj.dc, .int .i64 bj.via, .pointer bj.pa, .pointer bj.pm] 58))), Lib.hid (fun k' v hv => by
       obtain ⟨c, h1, h2, h3⟩ := HCTr.out k' v hv
       have := HSA.out
       exact ⟨c, h1, h2, by omega⟩), HGTr, HNWr, Lib.hid (Mv.trans (Mv.trans HMKr.out (Mv.of HB2.out (by omega))) (Mv.of (((Below.refl _ _).alloc (Nat.le_refl _) (.cells #[.int .i64 bi.dc, .int .i64 bi.via, .pointer bi.pa, .pointer bi.pm] 58)).alloc (by simp) (.cells #[.int .i64 bj.dc, .int .i64 bj.via, .pointer bj.pa, .pointer bj.pm] 58)) (by omega))), Lib.hid ((HBr.out.trans (HB2.out.mono HBr.out.size)).trans ((((Below.refl _ _).alloc (Nat.le_refl _) (.cells #[.int .i64 bi.dc, .int .i64 bi.via, .pointer bi.pa, .pointer bi.pm] 58)).alloc (by simp) (.cells #[.int .i64 bj.dc, .int .i64 bj.via, .pointer bj.pa, .pointer bj.pm] 58)).mono (by have := HBr.out.size; omega))), Lib.hid (HNEXT.out fun h => absurd h h4)⟩
     case measure => simp [intOf]; omega
  ·have hkn : k = n1 := by omega
   have HALL : Hid (isOk (mt x y) = true) := Lib.hid (by
    rw [HMT.out]
    exact (mtL_ok V).2 fun c hc => by
     obtain ⟨i, hi⟩ := List.getElem?_of_mem hc
     exact HPRr.out i c (by rw [hkn, HN1.out]; exact (List.getElem?_eq_some_iff.1 hi).1) hi)
   have HFX : Hid (Fin2 w0 (a, d)) := Lib.hid (Fin2.of HXY.out.1 HXY.out.2 HALL.out)
   have HNX := Lib.hid (New2.close HD0.out HNWr.out HFX.out)
   have HCX : Hid (Cts tb (C + sizes x + 1)) := Lib.hid (fun k' v hv => by
    obtain ⟨c, h1, h2, h3⟩ := HCTr.out k' v hv
    rw [hkn, HN1.out, List.take_length] at h3
    have := HVZ.out
    exact ⟨c, h1, h2, by omega⟩)
   go_wp2_with fail
   have HMZ := Lib.hid (((Mv.trans HMVa.out HMKr.out).set (g := w.heap.size + 1) (by omega) (by omega) 0 (.int .i64 0)).set (g := w.heap.size + 1) (by omega) (by omega) 1 (.string ⟨#[]⟩))
   have HMX := Lib.hid ((HMVr.out.set (g := w.heap.size + 1) (by omega) 0 (.int .i64 0)).set (g := w.heap.size + 1) (by omega) 1 (.string ⟨#[]⟩))
   have q2 : ((wr.setCell ⟨w.heap.size + 1, 0, none⟩ (.int .i64 0)).setCell ⟨w.heap.size + 1, 1, none⟩ (.string ⟨#[]⟩)).heap[w.heap.size + 1]? = some (.cells #[.int .i64 0, .string ⟨#[]⟩] 27 (0, 0)) := by
    have h1 := heap_setCell_same wr (w.heap.size + 1) 0 _ _ (.int .i64 0) HG4.out
    have h2 := heap_setCell_same _ (w.heap.size + 1) 1 _ _ (.string ⟨#[]⟩) h1
    simpa using h2
   clear q40 q41 f40 f41
   generalize ((wr.setCell ⟨w.heap.size + 1, 0, none⟩ (.int .i64 0)).setCell ⟨w.heap.size + 1, 1, none⟩ (.string ⟨#[]⟩)) = W3 at q2 HMZ HMX ⊢
   have x0 : W3.cell? ⟨w.heap.size + 1, 0, none⟩ = some (.int .i64 0) := (cellH q2 0).trans rfl
   have x1 : W3.cell? ⟨w.heap.size + 1, 1, none⟩ = some (.string ⟨#[]⟩) := (cellH q2 1).trans rfl
   clear q2
   refine bodyPost_ret (by simp [results, Try.results35, go_sem, x0, x1, Result.andThen]; try rfl) rfl ?_
   refine ⟨?_, HMZ.out, fun _ => ⟨_, HMX.out, HCX.out, HGTr.out, HNX.out⟩⟩
   have := HALL.out
   cases hm : mt x y with
   | error k => rw [hm] at this; cases this
   | ok l => rfl
end Go.Proofs.Ytagkpcnedccaiaa
