/-
  Do two environments say the same (env.Same).
-/
import Derived.Test.YtpgmlagkpigdjaaSml
import Derived.Test.YtpgmlagkpigdjaaEqf
import Derived.Deep.AppendLies
import Derived.Deep.RegionHeld3
namespace Go.Proofs.Ytpgmlagkpigdjaa
open Go.RowKit
set_option maxRecDepth 20000
set_option linter.unusedVariables false
set_option linter.unusedSimpArgs false

theorem own_ne {w : World} {base n j s : Nat} {e T : TypeId} {v : Value} {xs : List Value} {cs : Array Value} {fr : Nat × Nat} (h : w.ownsRow base e s v n xs) (hj : w.heap[j]? = some (.cells cs T fr)) (hT : T ≠ e) : some j ≠ v.ownBlock := by
  obtain ⟨_, ⟨rfl, _⟩ | ⟨g, c, cur, rfl, hb, hg, _⟩⟩ := h
  · simp [Value.ownBlock]
  · simp only [Value.ownBlock, ne_eq, Option.some.injEq]
    rintro rfl
    rw [hj] at hg
    simp only [Option.some.injEq, Obj.cells.injEq] at hg
    exact hT hg.2.1
theorem kidsTo_len (A B : List Bi) (X Y : List Bn) : ∀ k, (kidsTo A B X Y k).length ≤ 2 * k
  | 0 => by simp [kidsTo]
  | k + 1 => by
    have ih := kidsTo_len A B X Y k
    simp only [kidsTo, List.length_append]
    split <;> simp only [List.length_cons, List.length_nil] <;> omega
theorem mu_len (ls : List Pr) : ls.length ≤ mu ls := by
  induction ls with
  | nil => simp [mu]
  | cons e r ih => simp only [List.length_cons, mu]; omega
theorem OwnL.kp {w w' : World} {base b : Nat} {v : Value} {ls : List Pr} {tab : List ((Option Nat × Option Nat) × Value)} (hm : MapV pairV w b tab) (hk : Kp b w w') (h : OwnL w base v ls) : OwnL w' base v ls := by
  obtain ⟨es, c, hb, _⟩ := hm
  obtain ⟨hl, h0 | ⟨g, c', cur, hv, hb', hg, hr⟩⟩ := h
  · exact ⟨hl, .inl h0⟩
  · refine ⟨hl, .inr ⟨g, c', cur, hv, hb', (hk.blk g (heap_lt hg) ?_).trans hg, hr⟩⟩
    rintro rfl
    rw [hb] at hg; cases hg
set_option maxHeartbeats 16000000 in
theorem same16 (w : World) (p q : Option Addr) (x y : List Bn) (hx : EnvIs w p x) (hy : EnvIs w q y) (hsx : sizes x ≤ 4000) (hsy : sizes y ≤ 4000) :
    Calls Try.prog 16 #[.pointer p, .pointer q] w (BoolPost w (SM x y)) := by
  obtain ⟨i71, hi71, hy0, hy1, hy2⟩ : ∃ i71, Try.prog.info? 71 = some i71 ∧ i71.zero = some (.agg #[.pointer none, .pointer none]) ∧ i71.size = 2 ∧ i71.bytes = 16 := by
    refine ⟨_, rfl, ?_, ?_, ?_⟩ <;> kernel_rfl
  have hmm := @run_makeMap Try.prog
  have HX := Lib.hid hx
  have HY := Lib.hid hy
  have HWK := Lib.hid (Wk.start hx hy)
  have HSZ : Hid (Szs [⟨p, q, x, y⟩]) := Lib.hid fun e he => by simp only [List.mem_singleton] at he; subst he; exact ⟨hsx, hsy⟩
  have HM0 : Hid (mu [⟨p, q, x, y⟩] ≤ 8001) := Lib.hid (by simp only [mu]; omega)
  clear hx hy hsx hsy
  go_enter Try.func16, Try.ntmps16
  go_wp2_with fail
  obtain ⟨W2, hW2⟩ : ∃ W2, W2 = (w.alloc (.map #[] 0)).alloc (.cells #[.pointer p, .pointer q] 71) := ⟨_, rfl⟩
  have HW2 : Hid (Below w.heap.size w W2) := Lib.hid (by rw [hW2]; exact ((Below.refl _ _).alloc (Nat.le_refl _) _).alloc (by simp) _)
  have HMP : Hid (MapV pairV W2 w.heap.size []) := Lib.hid (by rw [hW2]; exact (MapV.made w).step ((Below.refl _ _).alloc (Nat.le_refl _) _))
  have HOL : Hid (OwnL W2 w.heap.size (.slice (some ⟨w.heap.size + 1, 0, none⟩) 1 1) [⟨p, q, x, y⟩]) := Lib.hid (by
    refine ⟨rfl, .inr ⟨w.heap.size + 1, 1, #[.pointer p, .pointer q], rfl, by omega, ?_, by (first | exact Nat.le_refl _ | decide | simp), by (first | decide | simp | (unfold maxLen; omega)), by (first | rfl | simp), by (first | rfl | simp)⟩⟩
    rw [hW2, show w.heap.size + 1 = (w.alloc (.map #[] 0)).heap.size by simp]
    exact heap_new _ _)
  rw [← hW2]
  clear hW2
  go_loopg [6] 8001 (fun gk v wr => ∃ (ls : List Pr) (tab : List ((Option Nat × Option Nat) × Value)), mu ls ≤ gk ∧ gk ≤ 8001 ∧ Hid (OwnL wr w.heap.size v ls) ∧ Hid (MapV pairV wr w.heap.size tab) ∧ Hid (Wk w x y (p, q) (domOf tab) ls) ∧ Hid (Szs ls) ∧ Hid (Cts tab (8001 - gk)) ∧ Hid (GdT w tab) ∧ Hid (Below w.heap.size w wr))
  case atStart => exact ⟨[⟨p, q, x, y⟩], [], HM0.out, Nat.le_refl _, HOL, HMP, HWK, HSZ, Lib.hid (fun k v hv => by simp [lkm] at hv), Lib.hid (fun x hx => by cases hx), HW2⟩
  case round =>
    obtain ⟨ls, tab, hmu, hgk, HO, HMV, HWL, HSL, HCT, HGT, HB⟩ := hrel
    rcases List.eq_nil_or_concat ls with rfl | ⟨ls', e, hls⟩
    · obtain ⟨g0, c0, rfl⟩ := HO.out.nil
      have HYES : Hid (SM x y) := Lib.hid (HWL.out.yes HX.out HY.out)
      go_wp2_with fail
      go_ret
      exact bool_yes HYES.out HB.out
    · rw [List.concat_eq_append] at hls
      subst hls
      obtain ⟨ls, rfl⟩ : ∃ l0, l0 = ls' := ⟨_, rfl⟩
      obtain ⟨g, c, rfl, hgc, hgb, hgl, x0, x1, ho⟩ := HO.out.last
      have hz := HB.out.size
      have hek := HWL.out.ok e (by simp)
      obtain ⟨hpa, hga⟩ := hek.1.nO
      obtain ⟨hqa, hgq⟩ := hek.2.nO
      obtain ⟨a, ha⟩ : ∃ a, a = nO e.p := ⟨_, rfl⟩
      obtain ⟨b, hb⟩ : ∃ b, b = nO e.q := ⟨_, rfl⟩
      rw [← ha] at hpa hga
      rw [← hb] at hqa hgq
      rw [hpa] at x0
      rw [hqa] at x1
      have hmu2 : mu ls + (2 * sizes e.x + 1) ≤ gk := by rw [mu_append] at hmu; simp only [mu] at hmu; omega
      have hll : ls.length ≤ 8001 := by have := mu_len ls; omega
      obtain ⟨Wd, hWd⟩ : ∃ Wd, Wd = (wr.alloc (.cells #[.pointer (a.bind at0), .pointer (b.bind at0)] 71)).drew := ⟨_, rfl⟩
      have hWdS : Below wr.heap.size wr Wd := by rw [hWd]; exact ((Below.refl _ _).alloc (Nat.le_refl _) _).drew
      have hWdB : Below w.heap.size w Wd := HB.out.trans (hWdS.mono hz)
      have hmd := HMV.out.step hWdS
      have hWdb : Wd.heap[wr.heap.size]? = some (.cells #[.pointer (a.bind at0), .pointer (b.bind at0)] 71 (0, 0)) := by rw [hWd]; exact heap_new wr _
      have hWds : Wd.heap.size = wr.heap.size + 1 := by rw [hWd]; show (wr.alloc _).heap.size = _; simp
      have w0 := (cellH hWdb 0).trans rfl
      have w1 := (cellH hWdb 1).trans rfl
      have r1 : (0 : Int) ≤ (ls.length : Int) := by omega
      have r2 : (ls.length : Int) < ((ls.length + 1 : Nat) : Int) := by omega
      have hgt : ∀ k ∈ tab, GoodB Wd k.1.1 ∧ GoodB Wd k.1.2 := HGT.out.step hWdB
      have hgk2 : GoodB Wd a ∧ GoodB Wd b := ⟨hga.step hWdB, hgq.step hWdB⟩
      have hlw := HMV.out.lt
      by_cases hin : (a, b) ∈ tab.map (·.1)
      · obtain ⟨v0, hv0⟩ : ∃ v0, lkm tab (a, b) = some v0 := by
          cases hl : lkm tab (a, b) with
          | none => exact absurd hin ((lkm_none tab (a, b)).1 hl)
          | some v => exact ⟨v, rfl⟩
        obtain ⟨c0, rfl, hc1, hc2⟩ := HCT.out _ _ hv0
        obtain ⟨st, W1, W2, e2, hm1, e4, hm2⟩ := entry_run key71_ok Try.underlying69 Wd w.heap.size tab hmd hgt (a, b) hgk2 (zero3 Wd) (.int .i64 ((c0 : Int) + 1))
        have e1 := look_run key71_ok Try.underlying69 Wd w.heap.size tab hmd hgt (a, b) hgk2 (zero3 Wd) false
        have hg1 : ∀ k ∈ upm tab (a, b) ((lkm tab (a, b)).getD (.int .i64 0)), GoodB W1 k.1.1 ∧ GoodB W1 k.1.2 := GdT.up (fun k hk => ⟨((HGT.out k hk).1.step (hm1.bel _ _ (Nat.le_refl _) hWdB)), ((HGT.out k hk).2.step (hm1.bel _ _ (Nat.le_refl _) hWdB))⟩) _ _ ⟨hga.step (hm1.bel _ _ (Nat.le_refl _) hWdB), hgq.step (hm1.bel _ _ (Nat.le_refl _) hWdB)⟩
        have hW2B := hm2.bel _ _ (Nat.le_refl _) hWdB
        have hg2 : ∀ k ∈ upm tab (a, b) (.int .i64 ((c0 : Int) + 1)), GoodB W2 k.1.1 ∧ GoodB W2 k.1.2 := GdT.up (fun k hk => ⟨((HGT.out k hk).1.step hW2B), ((HGT.out k hk).2.step hW2B)⟩) _ _ ⟨hga.step hW2B, hgq.step hW2B⟩
        have e5 := look_run key71_ok Try.underlying69 W2 w.heap.size _ hm2.map hg2 (a, b) ⟨hga.step hW2B, hgq.step hW2B⟩ (zero3 W2) false
        have e3 := look_run key71_ok Try.underlying69 W1 w.heap.size _ hm1.map hg1 (a, b) ⟨hga.step (hm1.bel _ _ (Nat.le_refl _) hWdB), hgq.step (hm1.bel _ _ (Nat.le_refl _) hWdB)⟩ (zero3 W1) false
        have e6 := eql25 a b W2 (hga.step hW2B) (hgq.step hW2B)
        rw [lkm_up, if_pos rfl] at e3 e5
        rw [hv0] at e1 e2 e3
        simp only [Bool.false_eq_true, if_false, Option.getD, pairV, ptrB] at e1 e2 e3 e4 e5 e6
        have hb2 : W2.heap[wr.heap.size]? = some (.cells #[.pointer (a.bind at0), .pointer (b.bind at0)] 71 (0, 0)) := (hm2.kp.blk _ (by rw [hWds]; omega) (by omega)).trans hWdb
        have hb1 : W1.heap[wr.heap.size]? = some (.cells #[.pointer (a.bind at0), .pointer (b.bind at0)] 71 (0, 0)) := (hm1.kp.blk _ (by rw [hWds]; omega) (by omega)).trans hWdb
        have y0 := (cellH hb1 0).trans rfl
        have y1 := (cellH hb1 1).trans rfl
        have z0 := (cellH hb2 0).trans rfl
        have z1 := (cellH hb2 1).trans rfl
        have HMV2 := Lib.hid hm2.map
        have HBW := Lib.hid hW2B
        have HO2 : Hid (OwnL W2 w.heap.size (.slice (some ⟨g, 0, none⟩) ls.length c) ls) := Lib.hid (OwnL.kp hmd hm2.kp (ho.step hWdS))
        have HG2 := Lib.hid (HGT.out.up (a, b) (.int .i64 ((c0 : Int) + 1)) ⟨hga, hgq⟩)
        have HSL2 : Hid (Szs ls) := Lib.hid fun f hf => HSL.out f (by simp [hf])
        have HWN : Hid (Wk w x y (p, q) (domOf (upm tab (a, b) (.int .i64 ((c0 : Int) + 1)))) ls) := Lib.hid (HWL.out.skip (fun k => by rw [dom_up]; unfold Pr.k; rw [hpa, hqa]) (.inl (by unfold Pr.k; rw [hpa, hqa]; exact (dom_mem tab a b).2 hin)))
        have HCN : Hid (Cts (upm tab (a, b) (.int .i64 ((c0 : Int) + 1))) (8001 - (gk - 1))) := Lib.hid (HCT.out.up (a, b) (c0 + 1) (by omega) (by omega) (by omega))
        have hc9 : c0 ≤ 8001 := by omega
        clear hb1 hb2 hm1 hm2 hmd hWdb hWdB hWds hgt hgk2 hg1 hg2 hW2B hin hv0 ho hlw ha hb hek hpa hqa hga hgq hmu
        subst hWd
        go_wp2_with fail
        go_region
        go_wp2_with fail
        go_roundg (gk - 1)
        case rel => exact ⟨ls, _, by omega, by omega, HO2, HMV2, HWN, HSL2, HCN, HG2, HBW⟩
        case measure => omega
      · have hv0 : lkm tab (a, b) = none := (lkm_none tab (a, b)).2 hin
        have hc2 : 1 ≤ 8001 - (gk - 1) := by omega
        obtain ⟨st, W1, W2, e2, hm1, e4, hm2⟩ := entry_run key71_ok Try.underlying69 Wd w.heap.size tab hmd hgt (a, b) hgk2 (zero3 Wd) (.int .i64 1)
        have e1 := look_run key71_ok Try.underlying69 Wd w.heap.size tab hmd hgt (a, b) hgk2 (zero3 Wd) false
        have hg1 : ∀ k ∈ upm tab (a, b) ((lkm tab (a, b)).getD (.int .i64 0)), GoodB W1 k.1.1 ∧ GoodB W1 k.1.2 := GdT.up (fun k hk => ⟨((HGT.out k hk).1.step (hm1.bel _ _ (Nat.le_refl _) hWdB)), ((HGT.out k hk).2.step (hm1.bel _ _ (Nat.le_refl _) hWdB))⟩) _ _ ⟨hga.step (hm1.bel _ _ (Nat.le_refl _) hWdB), hgq.step (hm1.bel _ _ (Nat.le_refl _) hWdB)⟩
        have hW2B := hm2.bel _ _ (Nat.le_refl _) hWdB
        have hg2 : ∀ k ∈ upm tab (a, b) (.int .i64 1), GoodB W2 k.1.1 ∧ GoodB W2 k.1.2 := GdT.up (fun k hk => ⟨((HGT.out k hk).1.step hW2B), ((HGT.out k hk).2.step hW2B)⟩) _ _ ⟨hga.step hW2B, hgq.step hW2B⟩
        have e5 := look_run key71_ok Try.underlying69 W2 w.heap.size _ hm2.map hg2 (a, b) ⟨hga.step hW2B, hgq.step hW2B⟩ (zero3 W2) false
        have e3 := look_run key71_ok Try.underlying69 W1 w.heap.size _ hm1.map hg1 (a, b) ⟨hga.step (hm1.bel _ _ (Nat.le_refl _) hWdB), hgq.step (hm1.bel _ _ (Nat.le_refl _) hWdB)⟩ (zero3 W1) false
        have e6 := eql25 a b W2 (hga.step hW2B) (hgq.step hW2B)
        rw [lkm_up, if_pos rfl] at e3 e5
        rw [hv0] at e1 e2 e3
        simp only [Bool.false_eq_true, if_false, Option.getD, pairV, ptrB] at e1 e2 e3 e4 e5 e6
        have hb2 : W2.heap[wr.heap.size]? = some (.cells #[.pointer (a.bind at0), .pointer (b.bind at0)] 71 (0, 0)) := (hm2.kp.blk _ (by rw [hWds]; omega) (by omega)).trans hWdb
        have hb1 : W1.heap[wr.heap.size]? = some (.cells #[.pointer (a.bind at0), .pointer (b.bind at0)] 71 (0, 0)) := (hm1.kp.blk _ (by rw [hWds]; omega) (by omega)).trans hWdb
        have y0 := (cellH hb1 0).trans rfl
        have y1 := (cellH hb1 1).trans rfl
        have z0 := (cellH hb2 0).trans rfl
        have z1 := (cellH hb2 1).trans rfl
        have HMV2 := Lib.hid hm2.map
        have HBW := Lib.hid hW2B
        have HO2 : Hid (OwnL W2 w.heap.size (.slice (some ⟨g, 0, none⟩) ls.length c) ls) := Lib.hid (OwnL.kp hmd hm2.kp (ho.step hWdS))
        have HG2 := Lib.hid (HGT.out.up (a, b) (.int .i64 1) ⟨hga, hgq⟩)
        have HSL2 : Hid (Szs ls) := Lib.hid fun f hf => HSL.out f (by simp [hf])
        have HCN : Hid (Cts (upm tab (a, b) (.int .i64 1)) (8001 - (gk - 1))) := Lib.hid (HCT.out.up (a, b) 1 (by omega) hc2 (by omega))
        by_cases hab : a = b
        · have HWN : Hid (Wk w x y (p, q) (domOf (upm tab (a, b) (.int .i64 1))) ls) := Lib.hid (HWL.out.skip (fun k => by rw [dom_up]; unfold Pr.k; rw [hpa, hqa]) (.inr (by rw [hpa, hqa, hab])))
          have e6' : ∀ W, W = W2 → (binOp .eql 25 (.pointer (a.bind at0)) (.pointer (b.bind at0))).run Try.prog W = .ok (.bool true) W := fun W hW => by rw [hW, e6]; simp [hab]
          have e7 := e6' W2 rfl
          clear hb1 hb2 hm1 hm2 hmd hWdb hWdB hWds hgt hgk2 hg1 hg2 hW2B hin hv0 ho hlw ha hb hek hpa hqa hga hgq hmu e6 e6' hab
          subst hWd
          go_wp2_with fail
          go_region
          go_wp2_with fail
          go_roundg (gk - 1)
          case rel => exact ⟨ls, _, by omega, by omega, HO2, HMV2, HWN, HSL2, HCN, HG2, HBW⟩
          case measure => omega
        · have e7 : (binOp .eql 25 (.pointer (a.bind at0)) (.pointer (b.bind at0))).run Try.prog W2 = .ok (.bool false) W2 := by rw [e6]; simp [hab]
          have HPA := Lib.hid hpa
          have HQA := Lib.hid hqa
          have HEK := Lib.hid hek
          clear hb1 hb2 hm1 hm2 hmd hWdb hWdB hWds hgt hgk2 hg1 hg2 hW2B hin hv0 ho hlw hmu e6 ha hb hek hpa hqa hga hgq hab
          subst hWd
          go_wp2_with fail
          go_region
          go_wp2_with fail
          obtain ⟨L, hL, hxr⟩ := HEK.out.1
          obtain ⟨M, hM, hyr⟩ := HEK.out.2
          have hLl : L.length ≤ 4000 := by have h1 := hxr.len; have h2 := sizes_len e.x; have h3 := (HSL.out e (by simp)).1; simp only [List.length_reverse, List.length_map] at h1; omega
          have hMl : M.length ≤ 4000 := by have h1 := hyr.len; have h2 := sizes_len e.y; have h3 := (HSL.out e (by simp)).2; simp only [List.length_reverse, List.length_map] at h1; omega
          have H20a : Hid (∀ W, Below w.heap.size w W → Calls Try.prog 20 #[.pointer (a.bind at0)] W (RowPost W (vis ((L.map (·.bi)).reverse)))) := Lib.hid fun W hW => by
            have := bound_any W e.p L (hL.step hW) (by omega); rw [HPA.out] at this; exact this
          have H20b : Hid (∀ W, Below w.heap.size w W → Calls Try.prog 20 #[.pointer (b.bind at0)] W (RowPost W (vis ((M.map (·.bi)).reverse)))) := Lib.hid fun W hW => by
            have := bound_any W e.q M (hM.step hW) (by omega); rw [HQA.out] at this; exact this
          have HLM := Lib.hid (And.intro hL hM)
          have HRR := Lib.hid (And.intro hxr hyr)
          have hV1 : (vis ((L.map (·.bi)).reverse)).length ≤ 4000 := by have h2 := visTo_len ((L.map (·.bi)).reverse) ((L.map (·.bi)).reverse).length; unfold vis; simp only [List.length_map, List.length_reverse] at h2 ⊢; omega
          have HV1 := Lib.hid hV1
          clear hL hM hxr hyr hLl hMl hV1
          have hw2z : wr.heap.size < W2.heap.size := by
            have := World.cell?_spot z0
            exact World.block_lt_of_cell? W2 _ z0
          have HCL : Hid (∀ W, Below W2.heap.size W2 W → W.cell? ⟨wr.heap.size, 0, none⟩ = some (.pointer (a.bind at0)) ∧ W.cell? ⟨wr.heap.size, 1, none⟩ = some (.pointer (b.bind at0))) := Lib.hid fun W hW => ⟨(hW.cell (p := ⟨wr.heap.size, _, none⟩) hw2z).trans z0, (hW.cell (p := ⟨wr.heap.size, _, none⟩) hw2z).trans z1⟩
          have hd2 := below_d W2
          have HD2 := Lib.hid hd2
          have HDw := Lib.hid (HBW.out.trans (hd2.mono HBW.out.size))
          clear x0 x1 w0 w1 y0 y1 e1 e2 e3 e4 e5 e7
          go_region_held3 (fun W => W.cell? ⟨wr.heap.size, 0, none⟩ = some (.pointer (a.bind at0)) ∧ W.cell? ⟨wr.heap.size, 1, none⟩ = some (.pointer (b.bind at0))) (first | exact HCL.out _ hd2 | exact ⟨t0, t1⟩ | go_keep) (first
            | (go_at_call 20; have hh := HB3.out; clear hh; refine (H20b.out _ HB3.out).mono ?_; rintro e' w4 ⟨v4, rfl, ho4, hb4⟩; obtain ⟨q4, n4, c4, rfl, hbs4⟩ := ho4.bs; have HOB := Lib.hid ho4; have HBS4 := Lib.hid hbs4; have HOA2 := Lib.hid (HOA.out.step hb4); have HBS3b := Lib.hid (HBS3.out.step hb4); have HB4 := Lib.hid (HB3.out.trans (hb4.mono HB3.out.size)); have HD4 := Lib.hid (HD3.out.trans (hb4.mono HD3.out.size)); obtain ⟨t0, t1⟩ := HCL.out _ HD4.out; clear ho4 hb4 hbs4)
            | (go_at_call 20; refine (H20a.out _ HDw.out).mono ?_; rintro e' w3 ⟨v3, rfl, ho3, hb3⟩; obtain ⟨q3, n3, c3, rfl, hbs3⟩ := ho3.bs; have HOA := Lib.hid ho3; have HBS3 := Lib.hid hbs3; have HB3 := Lib.hid (HDw.out.trans (hb3.mono HDw.out.size)); have HD3 := Lib.hid (HD2.out.trans (hb3.mono HD2.out.size)); obtain ⟨t0, t1⟩ := HCL.out _ HD3.out; clear ho3 hb3 hbs3))
          obtain ⟨A, hA⟩ : ∃ A, A = vis ((L.map (·.bi)).reverse) := ⟨_, rfl⟩
          obtain ⟨B, hB⟩ : ∃ B, B = vis ((M.map (·.bi)).reverse) := ⟨_, rfl⟩
          have HEQ : Hid (Calls Try.prog 30 #[.slice q3 n3 c3, .slice q4 n4 c4, .func (.func 31) #[] #[]] w4 (BoolPost w4 (Alb A B))) := Lib.hid (by
            rw [hA, hB]; exact equal30 w4 q3 q4 n3 c3 n4 c4 _ _ HBS3b.out HBS4.out (by have h1 := HBS3b.out.1; have h2 := HV1.out; omega))
          have HAB := Lib.hid (And.intro hA hB)
          clear hA hB t0 t1 z0 z1
          by_cases hal : Alb A B
          · have HAL := Lib.hid hal
            clear hal
            go_wp2_with (first
              | (go_at_call 30; refine HEQ.out.mono ?_; rintro e' w5 hbp; obtain ⟨rfl, hw5⟩ := bool_is hbp HAL.out; have HB5 := Lib.hid hw5; clear hbp hw5))
            have HZ5 := Lib.hid (HD4.out.trans (HB5.out.mono HD4.out.size))
            have HO5 := Lib.hid (HO2.out.step HZ5.out)
            have HMV5 := Lib.hid (HMV2.out.step HZ5.out)
            have HOA5 : Hid (OwnB w5 0 (.slice q3 n3 c3) A) := Lib.hid (by rw [HAB.out.1]; exact ((HOA2.out.step HB5.out).base (Nat.zero_le _)))
            have HOB5 : Hid (OwnB w5 0 (.slice q4 n4 c4) B) := Lib.hid (by rw [HAB.out.2]; exact ((HOB.out.step HB5.out).base (Nat.zero_le _)))
            have HBW5 := Lib.hid (HB4.out.trans (HB5.out.mono HB4.out.size))
            have HNA : Hid (n3 = A.length ∧ n3 = B.length ∧ n3 = (visN e.x).length ∧ n3 = (visN e.y).length ∧ n3 ≤ 4000) := Lib.hid (by
              have h1 := HBS3b.out.1
              have h2 := HAL.out.1
              have h3 := (vis_rep HRR.out.1).len
              have h4 := (vis_rep HRR.out.2).len
              have h5 := HV1.out
              rw [← HAB.out.1] at h1 h3 h5
              rw [← HAB.out.2] at h4
              omega)
            have HPU : Hid (Wk w x y (p, q) (domOf (upm tab (a, b) (.int .i64 1))) (ls ++ kidsTo A B (visN e.x) (visN e.y) n3)) := Lib.hid (by
              have := HWL.out.push (fun k => by rw [dom_up tab a b (.int .i64 1)]; unfold Pr.k; rw [HPA.out, HQA.out]) HLM.out.1 HLM.out.2 HRR.out.1 HRR.out.2 (by rw [← HAB.out.1, ← HAB.out.2]; exact HAL.out)
              rw [← HAB.out.1, ← HAB.out.2, ← HNA.out.2.2.1] at this
              exact this)
            have HSK : Hid (Szs (ls ++ kidsTo A B (visN e.x) (visN e.y) n3)) := Lib.hid (HSL.out.kids n3)
            have HMK : Hid (mu (ls ++ kidsTo A B (visN e.x) (visN e.y) n3) ≤ gk - 1) := Lib.hid (by
              have h1 := mu_kids A B e.x e.y
              rw [← HNA.out.2.2.1] at h1
              rw [mu_append]; omega)
            clear HBS4 HBS3b HOA2 HOB HOA HBS3 HEQ HRR HLM
            generalize visN e.x = X at *
            generalize visN e.y = Y at *
            obtain ⟨T2, hT2⟩ : ∃ T2, T2 = upm tab (a, b) (.int .i64 1) := ⟨_, rfl⟩
            rw [← hT2] at HMV5 HPU HG2 HCN
            clear hT2
            go_loopw [6, 60] (fun v i wi => ∃ k : Nat, k ≤ n3 ∧ i = .int .i64 k ∧ Hid (OwnL wi w.heap.size v (ls ++ kidsTo A B X Y k)) ∧ Hid (OwnB wi 0 (.slice q3 n3 c3) A) ∧ Hid (OwnB wi 0 (.slice q4 n4 c4) B) ∧ Hid (MapV pairV wi w.heap.size T2) ∧ Hid (Below w.heap.size w wi)) (fun _ i _ => n3 - (intOf i).toNat)
            case atStart => exact ⟨0, by omega, rfl, Lib.hid (by simpa [kidsTo] using HO5.out), HOA5, HOB5, HMV5, HBW5⟩
            case round =>
              obtain ⟨k, hk, rfl, HOi, HAi, HBi, HMi, HWi⟩ := hrel
              have hn4 := HNA.out.2.2.2.2
              by_cases hlt : k < n3
              · obtain ⟨q3', n3', c3', he3, hbs3⟩ := HAi.out.bs
                simp only [Value.slice.injEq] at he3
                obtain ⟨rfl, rfl, rfl⟩ := he3
                obtain ⟨q4', n4', c4', he4, hbs4⟩ := HBi.out.bs
                simp only [Value.slice.injEq] at he4
                obtain ⟨rfl, rfl, rfl⟩ := he4
                obtain ⟨hn1, h0 | ⟨g3, rfl, hc3, hg3, hat3⟩⟩ := hbs3
                · omega
                have hn45 : n4 = n3 := by have h1 := hbs4.1; have h2 := HNA.out.2.1; omega
                subst hn45
                obtain ⟨hn2, h0 | ⟨g4, rfl, hc4, hg4, hat4⟩⟩ := hbs4
                · omega
                obtain ⟨u, hu⟩ : ∃ u, A[k]? = some u := ⟨_, List.getElem?_eq_getElem (by omega)⟩
                obtain ⟨z, hz'⟩ : ∃ z, B[k]? = some z := ⟨_, List.getElem?_eq_getElem (by omega)⟩
                obtain ⟨xk, hxk⟩ : ∃ xk, X[k]? = some xk := ⟨_, List.getElem?_eq_getElem (by have := HNA.out.2.2.1; omega)⟩
                obtain ⟨yk, hyk⟩ : ∃ yk, Y[k]? = some yk := ⟨_, List.getElem?_eq_getElem (by have := HNA.out.2.2.2.1; omega)⟩
                have HKN := Lib.hid (kidsTo_next hu hz' hxk hyk)
                obtain ⟨v0, v1, v2, v3, v4, v5⟩ := hat3 k u hu
                obtain ⟨_, _, _, _, b4, b5⟩ := hat4 k z hz'
                have r1 : (0 : Int) ≤ (k : Int) := by omega
                have r2 : (k : Int) < (n4 : Int) := by omega
                clear hat3 hat4 hu hz' hxk hyk hn1 hn2
                simp only [at0]
                go_wp2_with fail
                obtain ⟨Wa, hWa⟩ : ∃ Wa, Wa = wr.alloc (.cells #[.int .i64 u.k.1, .string u.k.2, .int .i64 u.dc, .int .i64 u.via, .pointer u.pa, .pointer u.pm] 52) := ⟨_, rfl⟩
                have hWab : Below wr.heap.size wr Wa := by rw [hWa]; exact (Below.refl _ _).alloc (Nat.le_refl _) _
                have hWah : Wa.heap[wr.heap.size]? = some (.cells #[.int .i64 u.k.1, .string u.k.2, .int .i64 u.dc, .int .i64 u.via, .pointer u.pa, .pointer u.pm] 52 (0, 0)) := by rw [hWa]; exact heap_new _ _
                have hWaz : Wa.heap.size = wr.heap.size + 1 := by rw [hWa]; simp
                have HSa : Hid (OwnL Wa w.heap.size _ (ls ++ kidsTo A B X Y k)) := Lib.hid (HOi.out.step hWab)
                have HAa := Lib.hid (HAi.out.step hWab)
                have HBa := Lib.hid (HBi.out.step hWab)
                have HMa := Lib.hid (HMi.out.step hWab)
                have HWa := Lib.hid (HWi.out.trans (hWab.mono HWi.out.size))
                have s4 := (cellH hWah 4).trans rfl
                have s5 := (cellH hWah 5).trans rfl
                have b4' := (hWab.cell (p := ⟨g4, _, none⟩) hg4).trans b4
                have b5' := (hWab.cell (p := ⟨g4, _, none⟩) hg4).trans b5
                have hg3a : g3 < Wa.heap.size := by omega
                have hg4a : g4 < Wa.heap.size := by omega
                have hlen : (ls ++ kidsTo A B X Y k).length ≤ 20000 := by have := kidsTo_len A B X Y k; simp only [List.length_append]; omega
                have hlc := lcells_length (ls ++ kidsTo A B X Y k)
                have hrow := HSa.out
                unfold OwnL at hrow
                have hwz := HWa.out.size
                have hda := below_d Wa
                have HCa : Hid (∀ W, Below Wa.heap.size Wa W → W.cell? ⟨wr.heap.size, 4, none⟩ = some (.pointer u.pa) ∧ W.cell? ⟨wr.heap.size, 5, none⟩ = some (.pointer u.pm) ∧ W.cell? ⟨g4, k * 6 + 4, none⟩ = some (.pointer z.pa) ∧ W.cell? ⟨g4, k * 6 + 5, none⟩ = some (.pointer z.pm)) := Lib.hid fun W hW =>
                  ⟨(hW.cell (p := ⟨wr.heap.size, _, none⟩) (by simp only; omega)).trans s4, (hW.cell (p := ⟨wr.heap.size, _, none⟩) (by simp only; omega)).trans s5, (hW.cell (p := ⟨g4, _, none⟩) hg4a).trans b4', (hW.cell (p := ⟨g4, _, none⟩) hg4a).trans b5'⟩
                have HWAE := Lib.hid hWah
                have hne4 : some w.heap.size ≠ Value.ownBlock u6 := by
                  obtain ⟨es, cl, hmb, _⟩ := HMa.out
                  exact OwnL.notMap HSa.out hmb
                have hne1 : some wr.heap.size ≠ Value.ownBlock _ := own_ne hrow hWah (by decide)
                have hne2 : some g4 ≠ Value.ownBlock _ := (sep_ty HBa.out hrow (by decide)).resolve_left (by simp [Value.ownBlock, at0])
                have hne3 : some g3 ≠ Value.ownBlock _ := (sep_ty HAa.out hrow (by decide)).resolve_left (by simp [Value.ownBlock, at0])
                have HC6 : Hid (∀ W5 W6, Below Wa.heap.size Wa W5 → W5.grownBy W6 (Value.ownBlock u6) → W6.cell? ⟨wr.heap.size, 4, none⟩ = some (.pointer u.pa) ∧ W6.cell? ⟨wr.heap.size, 5, none⟩ = some (.pointer u.pm) ∧ W6.cell? ⟨g4, k * 6 + 4, none⟩ = some (.pointer z.pa) ∧ W6.cell? ⟨g4, k * 6 + 5, none⟩ = some (.pointer z.pm)) := Lib.hid fun W5 W6 h5 hg => by
                  obtain ⟨c1, c2, c3', c4'⟩ := HCa.out W5 h5
                  have hz5 := h5.size
                  refine ⟨?_, ?_, ?_, ?_⟩
                  · exact (hg.cell_far ⟨wr.heap.size, 4, none⟩ (show wr.heap.size < W5.heap.size by omega) hne1).trans c1
                  · exact (hg.cell_far ⟨wr.heap.size, 5, none⟩ (show wr.heap.size < W5.heap.size by omega) hne1).trans c2
                  · exact (hg.cell_far ⟨g4, k * 6 + 4, none⟩ (show g4 < W5.heap.size by omega) hne2).trans c3'
                  · exact (hg.cell_far ⟨g4, k * 6 + 5, none⟩ (show g4 < W5.heap.size by omega) hne2).trans c4'
                have HG6 : Hid (∀ W5 W6, Below Wa.heap.size Wa W5 → W5.grownBy W6 (Value.ownBlock u6) → OwnB W6 0 (.slice (at0 g3) n4 c3) A ∧ OwnB W6 0 (.slice (at0 g4) n4 c4) B ∧ MapV pairV W6 w.heap.size T2 ∧ Below w.heap.size w W6) := Lib.hid fun W5 W6 h5 hg =>
                  ⟨World.ownsRow.kept (OwnB.step HAa.out h5) hg (.inr hne3), World.ownsRow.kept (OwnB.step HBa.out h5) hg (.inr hne2), (HMa.out.step h5).kept hg hne4, (HWa.out.trans (h5.mono hwz)).grown hg (by have := h5.size; omega) (fun j hj => (World.ownsRow.lt hrow j hj).1)⟩
                have HB5' : Hid (∀ o, Below Wa.heap.size Wa (Wa.drew.alloc o)) := Lib.hid fun o => hda.trans (((Below.refl _ _).alloc (Nat.le_refl _) _).mono (Nat.le_refl _))
                clear v0 v1 v2 v3 v4 v5 b4 b5 hWah
                rw [← hWa]
                have HWZ := Lib.hid hWaz
                clear hWa hWaz
                go_region_held3 (fun W => W.cell? ⟨wr.heap.size, 4, none⟩ = some (.pointer u.pa) ∧ W.cell? ⟨wr.heap.size, 5, none⟩ = some (.pointer u.pm) ∧ W.cell? ⟨g4, k * 6 + 4, none⟩ = some (.pointer z.pa) ∧ W.cell? ⟨g4, k * 6 + 5, none⟩ = some (.pointer z.pm)) (first | exact HCa.out _ hda | exact ⟨d1, d2, d3, d4⟩ | exact HCa.out _ (hda.trans (((Below.refl _ _).alloc (Nat.le_refl _) _).mono (Nat.le_refl _))) | go_keep)
                  ((refine step_append_lies _ (by rfl) _ _ _ (by rfl) w.heap.size 71 i71 _ 2 16 Try.underlying72 hi71 hy0 hy1 hy2 rfl (by decide) _ _ _ (by rfl) (World.ownsRow.alloc (World.ownsRow.drew hrow) _) ⟨Wa.heap.size, 0, none⟩ 2 2 [.pointer u.pa, .pointer z.pa, .pointer u.pm, .pointer z.pm] (by rfl) (by rfl) (World.news_of_block (cs := #[.pointer u.pa, .pointer z.pa, .pointer u.pm, .pointer z.pm]) (t := 71) (fr := (0, 0)) (heap_alloc_new _ _)) (by simp [Value.oneCell']) (by omega) (by unfold maxLen; omega) (by omega) (by simp; omega) (Wa.heap.size + 1) (by simp) ?_; intro gg cc w6 hown6 hgrow hat6 hlt6; obtain ⟨d1, d2, d3, d4⟩ := HC6.out _ _ (HB5'.out _) hgrow; have HK6 := Lib.hid (HG6.out _ _ (HB5'.out _) hgrow); have HO6 := Lib.hid hown6; clear hown6 hgrow hat6 hlt6))
                have HOL6 : Hid (OwnL w6 w.heap.size (.slice (some ⟨gg, 0, none⟩) (ls.length + (kidsTo A B X Y k).length + 2) cc) (ls ++ kidsTo A B X Y (k + 1))) := Lib.hid (by
                  have h6 := HO6.out
                  unfold OwnL
                  rw [HKN.out, ← List.append_assoc, lcells_append]
                  simpa [lcells, List.length_append, Nat.add_assoc] using h6)
                go_wp2_with fail
                go_roundw
                case rel => exact ⟨k + 1, by omega, by go_num, HOL6, Lib.hid HK6.out.1, Lib.hid HK6.out.2.1, Lib.hid HK6.out.2.2.1, Lib.hid HK6.out.2.2.2⟩
                case measure => simp [intOf]; omega
              · obtain rfl : k = n3 := by omega
                go_wp2_with fail
                go_roundg (gk - 1)
                case rel => exact ⟨_, T2, HMK.out, by omega, HOi, HMi, HPU, HSK, HCN, HG2, HWi⟩
                case measure => omega
          · have HNO : Hid (¬ SM x y) := Lib.hid (HWL.out.no HRR.out.1 HRR.out.2 (by rw [← HAB.out.1, ← HAB.out.2]; exact hal))
            have HAL := Lib.hid hal
            clear hal
            go_wp2_with (first
              | (go_at_call 30; refine HEQ.out.mono ?_; rintro e' w5 hbp; obtain ⟨rfl, hw5⟩ := bool_not hbp HAL.out; have HB5 := Lib.hid hw5; clear hbp hw5))
            go_ret
            exact bool_no HNO.out (HB4.out.trans (HB5.out.mono HB4.out.size))
end Go.Proofs.Ytpgmlagkpigdjaa
