/-
  The law GraphSelf where the graph is right, walked.
-/
import Derived.Test.YtggoajpemffbiaaSfw
namespace Go.Proofs.Ytggoajpemffbiaa
open Go.RowKit
set_option maxRecDepth 20000
set_option linter.unusedVariables false
set_option linter.unusedSimpArgs false

def FamPost (w W : World) (l : List Int) (e : Ending) (w' : World) : Prop :=
  ∃ q n c, e = .returned (.slice q n c) ∧ IS w' q n c l ∧ n ≤ 60 ∧ Below w.heap.size w w' ∧ ∀ q n c l, IS W q n c l → IS w' q n c l
theorem idm_succ (n : Nat) : idm (n + 1) = idm n ++ [(n : Int)] := by unfold idm; rw [List.range_succ, List.map_append]; rfl
theorem idm_w {n : Nat} (h : n ≤ 1000) : ∀ x ∈ idm n, W64 x := fun x hx => by
  obtain ⟨i, hi⟩ := List.mem_iff_getElem?.1 hx
  obtain ⟨h1, h2⟩ := idm_in hi
  unfold W64; omega
set_option maxHeartbeats 16000000 in
theorem self_in (g : Gr) (E : List Int) (L : List P2) (V : List Int) (qo : Option Addr) (no co : Nat) (O : List Oc) (a b : Int) (w : World) (h : GrIn w g E L V) (hO : OS w qo no co O) (ha : W64 a) (hb : W64 b)
    (hf : fewB g = true) (hn : no ≤ 60) (hr : rightB E L V O = true) (h0 : no ≠ 0) :
    Calls Try.prog 5 #[g.v, .slice qo no co, .int .i64 a, .int .i64 b] w (MapsPost w) := by
  obtain ⟨i3, hi3, hz0, hz1, hz2⟩ := info_parts info3
  obtain ⟨f1, f2, f3⟩ := few_yes hf
  have HF := few_any g (w.alloc (.cells #[.slice g.qe g.ne g.ce, .slice g.ql g.nl g.cl, .slice g.qv g.nv g.cv] 25))
  rw [hf] at HF
  have HG := Lib.hid h
  have HO := Lib.hid hO
  have HRT := Lib.hid (right_ok hr)
  have HR : Hid (∀ W, Below w.heap.size w W → Calls Try.prog 9 #[g.v, .slice qo no co] W fun e w' => e = .returned (.bool true) ∧ Below W.heap.size W w') := Lib.hid fun W hW => by
    have := right_any g E L V qo no co O W (h.step hW) (hO.step hW) (by omega) (by omega) (by omega)
    rwa [hr] at this
  have hlo := hO.1
  obtain ⟨A, hA, eA⟩ := rem_n a h0 hn
  have HEA := Lib.hid eA
  clear eA
  obtain ⟨D, hD, eD⟩ := rem_n b h0 hn
  have HED := Lib.hid eD
  clear eD
  obtain ⟨x0, hx0⟩ : ∃ x0, E[A]? = some x0 := ⟨_, List.getElem?_eq_getElem (by have := HRT.out.len; omega)⟩
  obtain ⟨y0, hy0⟩ : ∃ y0, E[D]? = some y0 := ⟨_, List.getElem?_eq_getElem (by have := HRT.out.len; omega)⟩
  have hEl : E.length ≤ 60 := by have := HRT.out.len; omega
  have HFX : Hid (∀ W, Below w.heap.size w W → Calls Try.prog 12 #[g.v, .int .i64 (A : Int)] W fun e w' => ∃ v, e = .returned v ∧ OwnI w' W.heap.size v (famN E L x0) ∧ Below W.heap.size W w') := Lib.hid fun W hW => by
    have := family_any g E L V (A : Int) W (h.step hW) (by omega) (by omega) (by unfold W64; omega)
    rwa [famO_at hx0] at this
  have HFY : Hid (∀ W, Below w.heap.size w W → Calls Try.prog 12 #[g.v, .int .i64 (D : Int)] W fun e w' => ∃ v, e = .returned v ∧ OwnI w' W.heap.size v (famN E L y0) ∧ Below W.heap.size W w') := Lib.hid fun W hW => by
    have := family_any g E L V (D : Int) W (h.step hW) (by omega) (by omega) (by unfold W64; omega)
    rwa [famO_at hy0] at this
  have HCR : Hid (∀ W q n c, Below w.heap.size w W → IS W q n c (idm no) → Calls Try.prog 17 #[g.v, g.v, .slice q n c] W fun e w' => e = .returned (.bool true) ∧ Below W.heap.size W w') := Lib.hid fun W q n c hW his => by
    refine (carries_any g E L V g E L V q n c (idm no) W (h.step hW) (h.step hW) his (idm_w (by omega)) (by have := his.1; rw [idm_len] at this; omega) (by omega)).mono ?_
    rintro e w' ⟨b, rfl, hb, hbb⟩
    have hcp := carp_id HRT.out (by omega)
    rw [← hlo] at hcp
    exact ⟨by rw [hb.2 hcp], hbb⟩
  -- families
  have HXA : Hid (inI (famN E L x0) (A : Int) = true) := Lib.hid ((famN_in hx0).2 (Cn.refl _ _))
  have HYD : Hid (inI (famN E L y0) (D : Int) = true) := Lib.hid ((famN_in hy0).2 (Cn.refl _ _))
  obtain ⟨t, ht⟩ : ∃ t, t = inI (famN E L x0) (D : Int) := ⟨_, rfl⟩
  have htc : t = true ↔ Cn L x0 y0 := by rw [ht]; exact famN_in hy0
  have HXD : Hid (inI (famN E L x0) (D : Int) = t) := Lib.hid ht.symm
  have HYA : Hid (inI (famN E L y0) (A : Int) = t) := Lib.hid (bool_iff (by rw [htc, famN_in hx0]; exact ⟨fun e => e.symm, fun e => e.symm⟩))
  have HSM : Hid (t = true → famN E L x0 = famN E L y0) := Lib.hid fun e => famN_same (htc.1 e)
  have HYO : Hid (∀ o ∈ famN E L x0, inI (famN E L y0) o = t) := Lib.hid fun o ho => by
    obtain ⟨i, e, rfl, he, hc⟩ := famN_sub ho
    exact bool_iff (by rw [htc, famN_in he]; exact ⟨fun q => hc.trans q.symm, fun q => q.symm.trans hc⟩)
  have HXL : Hid ((famN E L x0).length ≤ 60) := Lib.hid (by have := famN_len E L x0; omega)
  have HYL : Hid ((famN E L y0).length ≤ 60) := Lib.hid (by have := famN_len E L y0; omega)
  clear ht htc hx0 hy0 hr hlo hEl h hO hf HRT f1 f2 f3
  generalize famN E L x0 = lx at *
  generalize famN E L y0 = ly at *
  obtain ⟨qe, ne, ce, ql, nl, cl, qv, nv, cv⟩ := g
  simp only [Gr.v] at *
  have b1 : Below w.heap.size w (w.alloc (.cells #[.slice qe ne ce, .slice ql nl cl, .slice qv nv cv] 25)) := (Below.refl _ _).alloc (Nat.le_refl _) _
  have e1 := heap_new w (.cells #[.slice qe ne ce, .slice ql nl cl, .slice qv nv cv] 25)
  have HB0 := Lib.hid b1
  have HF' := Lib.hid HF
  clear HF
  go_enter Try.func5, Try.ntmps5
  go_upto_region 1 with fail
  generalize w.alloc (.cells #[.slice qe ne ce, .slice ql nl cl, .slice qv nv cv] 25) = W1 at *
  obtain ⟨B, hB⟩ : ∃ B, B = w.heap.size := ⟨_, rfl⟩
  rw [← hB] at e1 ⊢
  have HX := Lib.hid e1
  obtain ⟨c0, c1, c2⟩ := box3 e1
  clear b1 hB e1
  go_wp2_with fail
  refine HF'.out.mono ?_
  rintro e w1 ⟨rfl, hb1⟩
  have HB1 := Lib.hid (HB0.out.trans (hb1.mono HB0.out.size))
  have HX1 := Lib.hid (heap_step HX.out hb1)
  clear hb1 c0 c1 c2
  obtain ⟨c0, c1, c2⟩ := box3 HX1.out
  have HR1 := Lib.hid (HR.out w1 HB1.out)
  clear HR
  go_wp2_with fail
  refine HR1.out.mono ?_
  rintro e w2 ⟨rfl, hb2⟩
  have HB2 := Lib.hid (HB1.out.trans (hb2.mono HB1.out.size))
  have HX2 := Lib.hid (heap_step HX1.out hb2)
  clear hb2 c0 c1 c2 HR1 HB0 HX HB1 HX1 HF'
  have hq0 : ¬ (no : Int) = 0 := by omega
  have hq1 : ((no : Int) == 0) = false := by simpa using hq0
  go_wp2_with fail
  go_loopw [9, 37] (fun v i wr => ∃ k : Nat, k ≤ no ∧ i = .int .i64 k ∧ Hid (OwnI wr w2.heap.size v (idm k)) ∧ Hid (Below w2.heap.size w2 wr)) (fun _ i _ => no - (intOf i).toNat)
  case atStart => exact ⟨0, by omega, rfl, Lib.hid (by have : idm 0 = [] := rfl; rw [this]; exact OwnI.nil _ _), Lib.hid (Below.refl _ _)⟩
  case round =>
    obtain ⟨k, hk, rfl, HW, HBw⟩ := hrel
    by_cases hlt : k < no
    · have hbz := HBw.out.size
      have HLN : Hid ((idm k).length ≤ 60) := Lib.hid (by rw [idm_len]; omega)
      have HOA : Hid ((wr.alloc (.cells #[.int .i64 k] 3)).ownsRow w2.heap.size 3 1 u9 (idm k).length ((idm k).map (Value.int .i64))) := Lib.hid (World.ownsRow.alloc HW.out _)
      go_wp2_with (at_builtin; refine wpList_append_own _ rfl _ _ 22 rfl w2.heap.size 3 i3 (.int .i64 0) 1 8 Try.underlying22 hi3 hz0 hz1 hz2 rfl (by omega) _ _ _ rfl HOA.out ⟨wr.heap.size, 0, none⟩ 1 1 [.int .i64 k] rfl rfl (one_new _ _ _) (one_cell _ _) (by have := HLN.out; unfold maxLen; omega) (by have := HLN.out; omega) (by simp; omega) ?_; intro v' w3 hown hgrow hnil; have HO2 : Hid (OwnI w3 w2.heap.size v' (idm (k + 1))) := Lib.hid (by rw [idm_succ]; exact OwnI.snoc hown); have HB3 := Lib.hid ((HBw.out.alloc hbz _).grown hgrow (by simp; omega) (fun j hj => (World.ownsRow.lt HOA.out j hj).1)); clear hown hgrow hnil)
      go_roundw
      case rel => exact ⟨k + 1, by omega, by go_num, HO2, HB3⟩
      case measure => simp [intOf]; omega
    · obtain rfl : k = no := by omega
      obtain ⟨qm, nm, cm, rfl, hism⟩ := HW.out.is
      have HM := Lib.hid hism
      have HB3 := Lib.hid (HB2.out.trans (HBw.out.mono HB2.out.size))
      have HX3 := Lib.hid (heap_step HX2.out HBw.out)
      clear hism HW HBw HB2 HX2 hk hlt
      have ha' : -9223372036854775808 ≤ a ∧ a ≤ 9223372036854775807 := ha
      have hb' : -9223372036854775808 ≤ b ∧ b ≤ 9223372036854775807 := hb
      go_upto_region 9 with fail
      go_quiet (fail)
      rw [HEA.out, HED.out]
      clear HEA HED ha' hb'
      go_upto_region 10 with fail
      have HBq := Lib.hid (below_drewN HB3.out nq)
      have HXq : Hid ((wr.drewN nq).heap[B]? = some (.cells #[.slice qe ne ce, .slice ql nl cl, .slice qv nv cv] 25 (0, 0))) := Lib.hid HX3.out
      have HMq : Hid (IS (wr.drewN nq) qm nm cm (idm k)) := Lib.hid (HM.out.step (below_drewN (Below.refl _ _) nq))
      generalize wr.drewN nq = wq at *
      clear HB3 HX3 HM
      have HPX : Hid (∀ W, Below wq.heap.size wq W → Calls Try.prog 12 #[.agg #[.slice qe ne ce, .slice ql nl cl, .slice qv nv cv], .int .i64 (A : Int)] W (FamPost wq W lx)) := Lib.hid fun W hW => by
        refine (HFX.out W (HBq.out.trans (hW.mono HBq.out.size))).mono ?_
        rintro e w' ⟨v, rfl, ho, hb⟩
        obtain ⟨q, n, c, rfl, his⟩ := ho.is
        exact ⟨q, n, c, rfl, his, by have := his.1; have := HXL.out; omega, hW.trans (hb.mono hW.size), fun q n c l h => h.step hb⟩
      have HPY : Hid (∀ W, Below wq.heap.size wq W → Calls Try.prog 12 #[.agg #[.slice qe ne ce, .slice ql nl cl, .slice qv nv cv], .int .i64 (D : Int)] W (FamPost wq W ly)) := Lib.hid fun W hW => by
        refine (HFY.out W (HBq.out.trans (hW.mono HBq.out.size))).mono ?_
        rintro e w' ⟨v, rfl, ho, hb⟩
        obtain ⟨q, n, c, rfl, his⟩ := ho.is
        exact ⟨q, n, c, rfl, his, by have := his.1; have := HYL.out; omega, hW.trans (hb.mono hW.size), fun q n c l h => h.step hb⟩
      go_cut [11, 12] from 65 to 70 (fun v11 v12 wx => ∃ qx nx cx qy ny cy, v11 = .slice qx nx cx ∧ v12 = .slice qy ny cy ∧ Hid (IS wx qx nx cx lx) ∧ Hid (IS wx qy ny cy ly) ∧ Hid (Below wq.heap.size wq wx))
      case first =>
        obtain ⟨c0, c1, c2⟩ := box3 HXq.out
        have HKP : Hid (∀ W, Below wq.heap.size wq W → W.cell? ⟨B, 0, none⟩ = some (.slice qe ne ce) ∧ W.cell? ⟨B, 1, none⟩ = some (.slice ql nl cl) ∧ W.cell? ⟨B, 2, none⟩ = some (.slice qv nv cv)) := Lib.hid fun W hW => box3 (heap_step HXq.out hW)
        go_region_held3 (fun w' => w'.cell? ⟨B, 0, none⟩ = some (.slice qe ne ce) ∧ w'.cell? ⟨B, 1, none⟩ = some (.slice ql nl cl) ∧ w'.cell? ⟨B, 2, none⟩ = some (.slice qv nv cv)) (first | exact ⟨c0, c1, c2⟩ | exact HKP.out _ (Below.refl _ _).drew | exact HKP.out _ HBX.out | exact HKP.out _ HBY.out | exact HKP.out _ HBX.out.drew | exact HKP.out _ HBY.out.drew | go_keep) (first
          | (go_at_call 12; (with_reducible refine Calls.mono (HPX.out _ (by first | exact Below.refl _ _ | exact (Below.refl _ _).drew | exact HBY.out | exact HBY.out.drew)) ?_); rintro e w3 ⟨qx, nx, cx, rfl, hisx, hnx, hbx, hsx⟩; have HIX := Lib.hid hisx; have HBX := Lib.hid hbx; have HSX := Lib.hid hsx; clear hisx hbx hsx hnx)
          | (go_at_call 12; (with_reducible refine Calls.mono (HPY.out _ (by first | exact Below.refl _ _ | exact (Below.refl _ _).drew | exact HBX.out | exact HBX.out.drew)) ?_); rintro e w4 ⟨qy, ny, cy, rfl, hisy, hny, hby, hsy⟩; have HIY := Lib.hid hisy; have HBY := Lib.hid hby; have HSY := Lib.hid hsy; clear hisy hby hsy hny))
        all_goals (
          go_wp2_with fail
          go_meet
          exact ⟨qx, nx, cx, qy, ny, cy, rfl, rfl, Lib.hid (HSY.out _ _ _ _ HIX.out), HIY, HBY⟩)
      case rest =>
        obtain ⟨qx, nx, cx, qy, ny, cy, rfl, rfl, HIX, HIY, HBc⟩ := hcut
        have HW := Lib.hid (HBq.out.trans (HBc.out.mono HBq.out.size))
        have HXc := Lib.hid (heap_step HXq.out HBc.out)
        have HMc := Lib.hid (HMq.out.step HBc.out)
        clear HPX HPY HFX HFY HBq HXq HMq HBc
        have hnx : nx ≤ 60 := by have := HIX.out.1; have := HXL.out; omega
        have hny : ny ≤ 60 := by have := HIY.out.1; have := HYL.out; omega
        have IXA := Lib.hid (in_any qx nx cx lx (A : Int) wc HIX.out (by omega))
        have IXD := Lib.hid (in_any qx nx cx lx (D : Int) wc HIX.out (by omega))
        have IYA := Lib.hid (in_any qy ny cy ly (A : Int) wc HIY.out (by omega))
        rw [HXA.out] at IXA
        rw [HXD.out] at IXD
        rw [HYA.out] at IYA
        go_upto_region 11 with fail
        go_cut [94] from 71 to 94 (fun v94 wx => v94 = .bool false ∧ Hid (Below wc.heap.size wc wx))
        case first =>
          cases t with
          | true =>
            have hxy := HSM.out rfl
            have HIN := Lib.hid (ints_same qx qy nx ny cx cy lx wc HIX.out (by rw [hxy]; exact HIY.out) (by omega))
            go_wp2_with (first
              | (go_at_call 15; (with_reducible refine Calls.mono IXA.out ?_); rintro e w3 ⟨rfl, rfl⟩)
              | (go_at_call 15; (with_reducible refine Calls.mono IXD.out ?_); rintro e w3 ⟨rfl, rfl⟩)
              | (go_at_call 15; (with_reducible refine Calls.mono IYA.out ?_); rintro e w3 ⟨rfl, rfl⟩)
              | (go_at_call 11; (with_reducible refine Calls.mono HIN.out ?_); rintro e w3 ⟨rfl, hb⟩; have HBN := Lib.hid hb; clear hb))
            go_meet
            exact ⟨rfl, HBN⟩
          | false =>
            go_wp2_with (first
              | (go_at_call 15; (with_reducible refine Calls.mono IXA.out ?_); rintro e w3 ⟨rfl, rfl⟩)
              | (go_at_call 15; (with_reducible refine Calls.mono IXD.out ?_); rintro e w3 ⟨rfl, rfl⟩)
              | (go_at_call 15; (with_reducible refine Calls.mono IYA.out ?_); rintro e w3 ⟨rfl, rfl⟩))
            go_meet
            exact ⟨rfl, Lib.hid (Below.refl _ _)⟩
        case rest =>
          obtain ⟨rfl, HBd⟩ := hcut
          obtain ⟨wd, hwd⟩ : ∃ wd, wd = wc := ⟨_, rfl⟩
          subst hwd
          have HWd := Lib.hid (HW.out.trans (HBd.out.mono HW.out.size))
          have HXd := Lib.hid (heap_step HXc.out HBd.out)
          have HMd := Lib.hid (HMc.out.step HBd.out)
          have HIXd := Lib.hid (HIX.out.step HBd.out)
          have HIYd := Lib.hid (HIY.out.step HBd.out)
          clear HW HXc HMc HIX HIY HBd IXA IXD IYA
          go_wp2_with fail
          go_loopw [97] (fun i wr => ∃ j : Nat, j ≤ nx ∧ i = .int .i64 j ∧ Hid (Below wd.heap.size wd wr)) (fun i _ => nx - (intOf i).toNat)
          case atStart => exact ⟨0, by omega, rfl, Lib.hid (Below.refl _ _)⟩
          case round =>
            obtain ⟨j, hj, rfl, HBe⟩ := hrel
            have HWe := Lib.hid (HWd.out.trans (HBe.out.mono HWd.out.size))
            have HIXe := Lib.hid (HIXd.out.step HBe.out)
            have HIYe := Lib.hid (HIYd.out.step HBe.out)
            by_cases hlt : j < nx
            · obtain ⟨hnl, h0 | ⟨gx, ox, rfl, hcx, hgx, hatx⟩⟩ := HIXe.out
              · omega
              obtain ⟨o, ho⟩ : ∃ o, lx[j]? = some o := ⟨_, List.getElem?_eq_getElem (by omega)⟩
              have v0 := hatx j o ho
              have s1 : (0 : Int) ≤ (j : Int) := by omega
              have s2 : (j : Int) < (nx : Int) := by omega
              have HHO := Lib.hid (HYO.out o (List.mem_of_getElem? ho))
              have IYD := Lib.hid (in_any qy ny cy ly (D : Int) wr HIYe.out (by omega))
              have IYO := Lib.hid (in_any qy ny cy ly o wr HIYe.out (by omega))
              have IXD := Lib.hid (in_any (some ⟨gx, ox, none⟩) nx cx lx (D : Int) wr HIXe.out (by omega))
              rw [HYD.out] at IYD
              rw [HHO.out] at IYO
              rw [HXD.out] at IXD
              clear hatx ho hnl
              cases t
              all_goals (
                go_wp2_with (first
                  | (go_at_call 15; (with_reducible refine Calls.mono IYD.out ?_); rintro e w3 ⟨rfl, rfl⟩)
                  | (go_at_call 15; (with_reducible refine Calls.mono IYO.out ?_); rintro e w3 ⟨rfl, rfl⟩)
                  | (go_at_call 15; (with_reducible refine Calls.mono IXD.out ?_); rintro e w3 ⟨rfl, rfl⟩))
                go_roundw
                case rel => exact ⟨j + 1, by omega, by go_num, HBe⟩
                case measure => simp [intOf]; omega)
            · have HXe := Lib.hid (heap_step HXd.out HBe.out)
              obtain ⟨c0, c1, c2⟩ := box3 HXe.out
              have HCC := Lib.hid (HCR.out wr qm nm cm HWe.out (HMd.out.step HBe.out))
              have hjx : j = nx := by omega
              clear hlt
              go_wp2_with fail
              refine HCC.out.mono ?_
              rintro e w5 ⟨rfl, hb5⟩
              have HW5 := Lib.hid (HWe.out.trans (hb5.mono HWe.out.size))
              clear hb5 c0 c1 c2
              go_wp2_with fail
              refine (alive_any w5).mono ?_
              rintro e w6 ⟨rfl, hb6⟩
              have HW6 := Lib.hid (HW5.out.trans (hb6.mono HW5.out.size))
              clear hb6
              go_wp2_with fail
              go_ret
              exact ⟨rfl, HW6.out⟩
theorem self_walk (g : Gr) (E : List Int) (L : List P2) (V : List Int) (qo : Option Addr) (no co : Nat) (O : List Oc) (a b : Int) (w : World) (h : GrIn w g E L V) (hO : OS w qo no co O) (_hno : no ≤ maxLen) (ha : (Lit.int .i64 a).wf = true) (hb : (Lit.int .i64 b).wf = true) :
    Calls Try.prog 5 #[g.v, .slice qo no co, .int .i64 a, .int .i64 b] w fun e w' => e = .returned (.bool true) ∧ Below w.heap.size w w' := by
  by_cases hc : fewB g = true ∧ no ≤ 60 ∧ rightB E L V O = true ∧ no ≠ 0
  · exact self_in g E L V qo no co O a b w h hO (bounds_i64 ha) (bounds_i64 hb) hc.1 hc.2.1 hc.2.2.1 hc.2.2.2
  · exact self_out g E L V qo no co O a b w h hO hc
end Go.Proofs.Ytggoajpemffbiaa
