/-
  The reader's bareStr.
-/
import Derived.Test.YtkjgkchdkeggoaaGreatDoorDecls
namespace Go.Proofs.YtkjgkchdkeggoaaGreatDoor
open Go.RowKit
set_option maxRecDepth 20000
set_option linter.unusedVariables false
set_option linter.unusedSimpArgs false

set_option maxHeartbeats 1000000 in
theorem bareStr_any (S : Src) (F : Nat) (rec : Nt → Nat → Nat → Out Pb) (d : Nat) (hs : Said S rec d) (hF0 : F ≤ 1000000000) (n : Nat) (w : World) (h : Rd w S n d) (hdry : bareStrO S F rec d n ≠ .dry) :
    Calls Tryz.prog 135 #[.pointer (some ⟨S.g, 0, none⟩)] w fun e w' => Ends S d w (bareStrO S F rec d n) (RB w) e w' := by
  have hgl := h.lt
  have hgwl := h.row
  have hbd := h.bound
  have ST0 := Lib.hid (St.init h [] ((by simp)))
  have HS := Lib.hid hs
  have HM6 := Lib.hid (fun (e : S.kd n ≠ 0) => h.moreK e)
  have HM7 := Lib.hid (fun (e : n + 1 < S.ts.length) (e2 : S.is (n + 1) [40] = true) => h.good.more e (by simp) e2)
  obtain ⟨tot, htot⟩ : ∃ tot, tot = bareStrO S F rec d n := ⟨_, rfl⟩
  have HD : Hid (tot ≠ .dry) := Lib.hid (by rw [htot]; exact hdry)
  rw [← htot]
  unfold bareStrO at htot
  have EQ0 := Lib.hid htot
  clear h hdry htot hs
  cases hst : S.is n [115, 116, 114, 117, 99, 116]
  · have e2 := EQ0.out
    simp only [hst, cond_false] at e2
    have EQ2 := Lib.hid e2
    clear e2 EQ0
    cases h7 : S.kd n == 7
    · have e3 := EQ2.out
      simp only [h7, cond_false] at e3
      have EQ3 := Lib.hid e3
      clear e3 EQ2
      have e4 := EQ3.out
      simp only [Bool.false_and, cond_false] at e4
      have EQ4 := Lib.hid e4
      clear e4 EQ3
      go_enter Tryz.func135, Tryz.ntmps135
      have q2 := ST0.out.rd.c2
      have HP := Lib.hid (rpass_any S (n) d ⟨#[115, 116, 114, 117, 99, 116]⟩ _ ST0.out.rd (by simp))
      simp only [hst, cond_true, cond_false] at HP
      go_wp2_with fail
      refine HP.out.mono ?_
      rintro e w5 ⟨rfl, hr, hg⟩
      have ST6 := Lib.hid (ST0.out.grow hr hg)
      clear hr hg ST0 HP
      clear q2
      have HP := Lib.hid (rkind_any S (n) d _ ST6.out.rd)
      go_wp2_with fail
      refine HP.out.mono ?_
      rintro e w7 ⟨rfl, hb⟩
      have ST8 := Lib.hid (ST6.out.below hb)
      clear hb ST6 HP
      have HC := Lib.hid (path1 S ((n)) d 7 (by decide) _ ST8.out.rd (bind_dry (by rw [← EQ4.out]; exact HD.out)))
      go_wp2_with fail
      refine HC.out.mono ?_
      rintro e w9 (⟨x9, n9, v9, hpo, rfl, hv, hr, hg⟩ | ⟨ch, ho, rfl, hg⟩)
      rotate_left
      · exact ⟨rfl, Or.inr ⟨ch, by rw [EQ4.out]; exact pan_bind (ho), rfl, ST8.out.pan hg⟩⟩
      have e10 := EQ4.out
      rw [show _ = Out.ok _ _ from hpo, bind_ok] at e10
      have EQ10 := Lib.hid e10
      clear e10 EQ4
      have hz := ST8.out.size
      obtain ⟨p9, l9, cp9, rfl⟩ := hv.form
      have ho := own_base hv hz
      have ST11 := Lib.hid ((ST8.out.grow hr hg).addN ho)
      clear hr hg ST8 hv ho hz hpo HC
      have HB := Lib.hid (rbranch_any S (n9) d 16 (n : Nat) p9 l9 cp9 none 0 0 _ ST11.out.rd)
      go_wp2_with fail
      refine HB.out.mono ?_
      rintro e w12 ⟨rfl, hb⟩
      have ST13 := Lib.hid (ST11.out.below hb)
      clear hb ST11 HB
      have FIN := Lib.hid (ST13.out.fin (k := 16) (m := 0) (f := n) hgl hgwl (ST13.out.ns (.slice p9 l9 cp9, x9) (by simp)) St.noK EQ10.out)
      clear ST13 EQ10
      have c0 := FIN.out.c0
      have c1 := FIN.out.c1
      have c2 := FIN.out.c2
      have c3 := FIN.out.c3
      have c4 := FIN.out.c4
      have c5 := FIN.out.c5
      have f0 := FIN.out.fz 0
      have f1 := FIN.out.fz 1
      have f2 := FIN.out.fz 2
      have f3 := FIN.out.fz 3
      have f4 := FIN.out.fz 4
      have f5 := FIN.out.fz 5
      go_wp2_with fail
      obtain ⟨_, _, _, _, _, _, _, d0, d1, d2, d3, d4, d5, hfin⟩ := FIN.out
      refine bodyPost_ret (by simp [results, Tryz.results135, go_sem, d0, d1, d2, d3, d4, d5, Result.andThen]; try rfl) rfl ?_
      exact hfin
    · have e3 := EQ2.out
      simp only [h7, cond_true] at e3
      have EQ3 := Lib.hid e3
      clear e3 EQ2
      have e4 := EQ3.out
      simp only [Bool.true_and] at e4
      have EQ4 := Lib.hid e4
      clear e4 EQ3
      have h7e : S.kd n = 7 := by simpa using h7
      have hm1 : n + 1 < S.ts.length := HM6.out (by omega)
      cases hop : S.is (n + 1) [40]
      · have e5 := EQ4.out
        simp only [hop, cond_false] at e5
        have EQ5 := Lib.hid e5
        clear e5 EQ4
        have htx := is_tx hop
        go_enter Tryz.func135, Tryz.ntmps135
        have q2 := ST0.out.rd.c2
        have HP := Lib.hid (rpass_any S (n) d ⟨#[115, 116, 114, 117, 99, 116]⟩ _ ST0.out.rd (by simp))
        simp only [hst, cond_true, cond_false] at HP
        go_wp2_with fail
        refine HP.out.mono ?_
        rintro e w6 ⟨rfl, hr, hg⟩
        have ST7 := Lib.hid (ST0.out.grow hr hg)
        clear hr hg ST0 HP
        clear q2
        have HP := Lib.hid (rkind_any S (n) d _ ST7.out.rd)
        go_wp2_with fail
        refine HP.out.mono ?_
        rintro e w8 ⟨rfl, hb⟩
        have ST9 := Lib.hid (ST7.out.below hb)
        clear hb ST7 HP
        have HP := Lib.hid (rtext_any S (n) d (n + 1) _ ST9.out.rd hm1)
        rw [show ((n + 1 : Nat) : Int) = ((n : Nat) : Int) + 1 by omega] at HP
        go_wp2_with fail
        refine HP.out.mono ?_
        rintro e w10 ⟨rfl, hb⟩
        have ST11 := Lib.hid (ST9.out.below hb)
        clear hb ST9 HP
        have HC := Lib.hid (path1 S ((n)) d 7 (by decide) _ ST11.out.rd (bind_dry (by rw [← EQ5.out]; exact HD.out)))
        go_wp2_with fail
        refine HC.out.mono ?_
        rintro e w12 (⟨x12, n12, v12, hpo, rfl, hv, hr, hg⟩ | ⟨ch, ho, rfl, hg⟩)
        rotate_left
        · exact ⟨rfl, Or.inr ⟨ch, by rw [EQ5.out]; exact pan_bind (ho), rfl, ST11.out.pan hg⟩⟩
        have e13 := EQ5.out
        rw [show _ = Out.ok _ _ from hpo, bind_ok] at e13
        have EQ13 := Lib.hid e13
        clear e13 EQ5
        have hz := ST11.out.size
        obtain ⟨p12, l12, cp12, rfl⟩ := hv.form
        have ho := own_base hv hz
        have ST14 := Lib.hid ((ST11.out.grow hr hg).addN ho)
        clear hr hg ST11 hv ho hz hpo HC
        have HB := Lib.hid (rbranch_any S (n12) d 16 (n : Nat) p12 l12 cp12 none 0 0 _ ST14.out.rd)
        go_wp2_with fail
        refine HB.out.mono ?_
        rintro e w15 ⟨rfl, hb⟩
        have ST16 := Lib.hid (ST14.out.below hb)
        clear hb ST14 HB
        have FIN := Lib.hid (ST16.out.fin (k := 16) (m := 0) (f := n) hgl hgwl (ST16.out.ns (.slice p12 l12 cp12, x12) (by simp)) St.noK EQ13.out)
        clear ST16 EQ13
        have c0 := FIN.out.c0
        have c1 := FIN.out.c1
        have c2 := FIN.out.c2
        have c3 := FIN.out.c3
        have c4 := FIN.out.c4
        have c5 := FIN.out.c5
        have f0 := FIN.out.fz 0
        have f1 := FIN.out.fz 1
        have f2 := FIN.out.fz 2
        have f3 := FIN.out.fz 3
        have f4 := FIN.out.fz 4
        have f5 := FIN.out.fz 5
        go_wp2_with fail
        obtain ⟨_, _, _, _, _, _, _, d0, d1, d2, d3, d4, d5, hfin⟩ := FIN.out
        refine bodyPost_ret (by simp [results, Tryz.results135, go_sem, d0, d1, d2, d3, d4, d5, Result.andThen]; try rfl) rfl ?_
        exact hfin
      · have e5 := EQ4.out
        simp only [hop, cond_true] at e5
        have EQ5 := Lib.hid e5
        clear e5 EQ4
        have htx := is_tx hop
        have hm2 : n + 1 + 1 < S.ts.length := HM7.out hm1 hop
        go_enter Tryz.func135, Tryz.ntmps135
        have q2 := ST0.out.rd.c2
        have HP := Lib.hid (rpass_any S (n) d ⟨#[115, 116, 114, 117, 99, 116]⟩ _ ST0.out.rd (by simp))
        simp only [hst, cond_true, cond_false] at HP
        go_wp2_with fail
        refine HP.out.mono ?_
        rintro e w6 ⟨rfl, hr, hg⟩
        have ST7 := Lib.hid (ST0.out.grow hr hg)
        clear hr hg ST0 HP
        clear q2
        have HP := Lib.hid (rkind_any S (n) d _ ST7.out.rd)
        go_wp2_with fail
        refine HP.out.mono ?_
        rintro e w8 ⟨rfl, hb⟩
        have ST9 := Lib.hid (ST7.out.below hb)
        clear hb ST7 HP
        have HP := Lib.hid (rtext_any S (n) d (n + 1) _ ST9.out.rd hm1)
        rw [show ((n + 1 : Nat) : Int) = ((n : Nat) : Int) + 1 by omega] at HP
        go_wp2_with fail
        refine HP.out.mono ?_
        rintro e w10 ⟨rfl, hb⟩
        have ST11 := Lib.hid (ST9.out.below hb)
        clear hb ST9 HP
        have q2 := ST11.out.rd.c2
        have fz2 := ST11.out.rd.free 2
        have STm := Lib.hid (ST11.out.moved (n + 2) hm2 ((n : Int) + 2) (by omega))
        clear ST11
        have HC := Lib.hid (HS.out.str ((n + 2)) _ STm.out.rd (bind_dry (by rw [← EQ5.out]; exact HD.out)))
        go_wp2_with fail
        refine HC.out.mono ?_
        rintro e w12 (⟨x12, n12, v12, hpo, rfl, ⟨y12, hv, hyl, hyo, rfl⟩, hr, hg⟩ | ⟨ch, ho, rfl, hg⟩)
        rotate_left
        · exact ⟨rfl, Or.inr ⟨ch, by rw [EQ5.out]; exact pan_bind (ho), rfl, STm.out.pan hg⟩⟩
        have e13 := EQ5.out
        rw [show _ = Out.ok _ _ from hpo, bind_ok] at e13
        have EQ13 := Lib.hid e13
        clear e13 EQ5
        have HY12 := Lib.hid (And.intro hyl (hyo.mono (fun q hq => Nat.le_trans STm.out.size hq) _))
        simp only [Hd.val] at hv
        subst hv
        have ST14 := Lib.hid (STm.out.grow hr hg)
        clear hr hg STm hyl hyo hpo HC
        clear q2 fz2
        have hbx := ST14.out.box HY12.out.1 HY12.out.2
        have hsz := ST14.out.size
        have hlt := ST14.out.lt
        have hn1 : ¬ S.g = w12.heap.size := by omega
        have hn2 : ¬ w12.heap.size = S.g := by omega
        have hrb := heap_alloc_new w12 boxZ
        have qq := Lib.cell_of_heap hrb
        have r0 := qq 0
        have r1 := qq 1
        have r2 := qq 2
        have r3 := qq 3
        have r4 := qq 4
        have r5 := qq 5
        simp only [List.getElem?_toArray, List.getElem?_cons_zero, List.getElem?_cons_succ, boxZ] at r0 r1 r2 r3 r4 r5
        have fz : ∀ i, (w12.alloc boxZ).frozen? ⟨w12.heap.size, i, none⟩ = false := fun i => cells_frozen hrb i
        have f0 := fz 0
        have f1 := fz 1
        have f2 := fz 2
        have f3 := fz 3
        have f4 := fz 4
        have f5 := fz 5
        have STx := Lib.hid hbx
        clear hbx hrb qq fz hsz hlt ST14  HY12
        rename_i K1 hK1 K0 hK0
        show K0 _ _
        refine hK0 _ _ ?_
        refine wpList_step fun K2 hK2 => ?_
        rw [if_pos (wanted_none rfl)]
        unfold Oper.wp
        have hrun : ∀ a : Act, (execOp a.eval { dst := some 5, op := Op.alloc 26, type := 0, pos := "modules.go:27", after := #[], guard := none }).run Tryz.prog w12 = .ok (.value (.pointer (some ⟨w12.heap.size, 0, none⟩))) (w12.alloc boxZ) := fun a => by
          generalize a.eval = ρ
          simp [go_sem]
          try rfl
        rw [hrun, Oper.upon_value]
        refine hK2 _ _ ?_
        clear hrun hK2 hK0
        simp only [Act.put, List.setIfInBounds_toArray, List.set_cons_zero, List.set_cons_succ] at *
        generalize hb15 : w12.heap.size = b15 at *
        generalize w12.alloc boxZ = A15 at *
        clear hb15
        have HC := Lib.hid (rneed_any S ((n12)) d ⟨#[41]⟩ _ STx.out.rd (by simp))
        go_wp2_with fail
        refine HC.out.mono ?_
        rintro e w16 (⟨x16, n16, v16, hpo, rfl, hv, hr, hg⟩ | ⟨ch, ho, rfl, hg⟩)
        rotate_left
        · exact ⟨rfl, Or.inr ⟨ch, by rw [EQ13.out]; exact pan_bind (ho), rfl, STx.out.pan hg⟩⟩
        have e17 := EQ13.out
        rw [show _ = Out.ok _ _ from hpo, bind_ok] at e17
        have EQ17 := Lib.hid e17
        clear e17 EQ13
        obtain rfl : v16 = .tuple #[] := hv
        have ST18 := Lib.hid (STx.out.grow hr hg)
        clear hr hg STx hpo HC
        clear r0 r1 r2 r3 r4 r5 f0 f1 f2 f3 f4 f5 hn1 hn2
        have ST19 : Hid (St S _ d _ (w16.alloc (.cells #[.int .i64 (n : Int)] 3)) _) := Lib.hid (ST18.out.newN [n] (by simp))
        have qq := Lib.cell_of_heap (ST19.out.b (b15, y12) (by simp)).1
        have l00 := qq 0
        have l01 := qq 1
        have l02 := qq 2
        have l03 := qq 3
        have l04 := qq 4
        have l05 := qq 5
        simp only [List.getElem?_toArray, List.getElem?_cons_zero, List.getElem?_cons_succ] at l00 l01 l02 l03 l04 l05
        clear qq
        have hys20 : ∀ u ∈ [y12], u.Lies (w16.alloc (.cells #[.int .i64 (n : Int)] 3)) ∧ u.On (fun q => (w.alloc boxZ).heap.size ≤ q) := (List.forall_mem_cons.2 ⟨(ST19.out.b (b15, y12) (by simp)).2.2, (fun _ h => nomatch h)⟩)
        have ST20 : Hid (St S _ d _ ((w16.alloc (.cells #[.int .i64 (n : Int)] 3)).alloc (.cells #[.int .i64 y12.h.k, .int .i64 y12.h.m, .int .i64 y12.h.f, .int .i64 y12.h.t, .slice y12.h.np y12.h.nn y12.h.nc, .slice y12.h.kp y12.h.kn y12.h.kc] 26)) _) := Lib.hid (ST19.out.newK [y12] (by simp) hys20)
        clear hys20
        rw [show (w16.alloc (.cells #[.int .i64 (n : Int)] 3)).heap.size = w16.heap.size + 1 by simp] at ST20
        have HB := Lib.hid (rbranch_any S (n16) d 17 (n : Nat) (some ⟨w16.heap.size, 0, none⟩) 1 1 (some ⟨w16.heap.size + 1, 0, none⟩) 1 1 _ ST20.out.rd)
        go_wp2_with fail
        refine HB.out.mono ?_
        rintro e w21 ⟨rfl, hb⟩
        have ST22 := Lib.hid (ST20.out.below hb)
        clear hb ST20 HB
        have FIN := Lib.hid (ST22.out.fin (k := 17) (m := 0) (f := n) hgl hgwl (ST22.out.ns (.slice (some ⟨w16.heap.size, 0, none⟩) 1 1, [n]) (by simp)) (ST22.out.ks (.slice (some ⟨w16.heap.size + 1, 0, none⟩) 1 1, [y12]) (by simp)) EQ17.out)
        clear ST22 EQ17
        have c0 := FIN.out.c0
        have c1 := FIN.out.c1
        have c2 := FIN.out.c2
        have c3 := FIN.out.c3
        have c4 := FIN.out.c4
        have c5 := FIN.out.c5
        have f0 := FIN.out.fz 0
        have f1 := FIN.out.fz 1
        have f2 := FIN.out.fz 2
        have f3 := FIN.out.fz 3
        have f4 := FIN.out.fz 4
        have f5 := FIN.out.fz 5
        go_wp2_with fail
        obtain ⟨_, _, _, _, _, _, _, d0, d1, d2, d3, d4, d5, hfin⟩ := FIN.out
        refine bodyPost_ret (by simp [results, Tryz.results135, go_sem, d0, d1, d2, d3, d4, d5, Result.andThen]; try rfl) rfl ?_
        exact hfin
  · have e2 := EQ0.out
    simp only [hst, cond_true] at e2
    have EQ2 := Lib.hid e2
    clear e2 EQ0
    go_enter Tryz.func135, Tryz.ntmps135
    have q2 := ST0.out.rd.c2
    have HP := Lib.hid (rpass_any S (n) d ⟨#[115, 116, 114, 117, 99, 116]⟩ _ ST0.out.rd (by simp))
    simp only [hst, cond_true, cond_false] at HP
    go_wp2_with fail
    refine HP.out.mono ?_
    rintro e w3 ⟨rfl, hr, hg⟩
    have ST4 := Lib.hid (ST0.out.grow hr hg)
    clear hr hg ST0 HP
    clear q2
    have HC := Lib.hid (decs_any S F rec d HS.out hF0 1 ((n + 1)) _ ST4.out.rd (bind_dry (by rw [← EQ2.out]; exact HD.out)))
    go_wp2_with fail
    refine HC.out.mono ?_
    rintro e w5 (⟨x5, n5, v5, hpo, rfl, ⟨y5, hown, hkid, rfl⟩, hr, hg⟩ | ⟨ch, ho, rfl, hg⟩)
    rotate_left
    · exact ⟨rfl, Or.inr ⟨ch, by rw [EQ2.out]; exact pan_bind (ho), rfl, ST4.out.pan hg⟩⟩
    have e6 := EQ2.out
    rw [show _ = Out.ok _ _ from hpo, bind_ok] at e6
    have EQ6 := Lib.hid e6
    clear e6 EQ2
    have hz := ST4.out.size
    have ho := own_base hown hz
    have hkk := hkid.base hz
    obtain ⟨p5, cp5, rfl⟩ := own_form hown
    have ST7 := Lib.hid ((ST4.out.grow hr hg).addK ho hkk)
    clear hr hg ST4 hown hkid ho hkk hz hpo HC
    have HC := Lib.hid (rneed_any S ((n5)) d ⟨#[101, 110, 100]⟩ _ ST7.out.rd (by simp))
    go_wp2_with fail
    refine HC.out.mono ?_
    rintro e w8 (⟨x8, n8, v8, hpo, rfl, hv, hr, hg⟩ | ⟨ch, ho, rfl, hg⟩)
    rotate_left
    · exact ⟨rfl, Or.inr ⟨ch, by rw [EQ6.out]; exact pan_bind (ho), rfl, ST7.out.pan hg⟩⟩
    have e9 := EQ6.out
    rw [show _ = Out.ok _ _ from hpo, bind_ok] at e9
    have EQ9 := Lib.hid e9
    clear e9 EQ6
    obtain rfl : v8 = .tuple #[] := hv
    have ST10 := Lib.hid (ST7.out.grow hr hg)
    clear hr hg ST7 hpo HC
    have HB := Lib.hid (rbranch_any S (n8) d 15 (n : Nat) none 0 0 p5 y5.length cp5 _ ST10.out.rd)
    go_wp2_with fail
    refine HB.out.mono ?_
    rintro e w11 ⟨rfl, hb⟩
    have ST12 := Lib.hid (ST10.out.below hb)
    clear hb ST10 HB
    have FIN := Lib.hid (ST12.out.fin (k := 15) (m := 0) (f := n) hgl hgwl St.noN (ST12.out.ks (.slice p5 y5.length cp5, y5) (by simp)) EQ9.out)
    clear ST12 EQ9
    have c0 := FIN.out.c0
    have c1 := FIN.out.c1
    have c2 := FIN.out.c2
    have c3 := FIN.out.c3
    have c4 := FIN.out.c4
    have c5 := FIN.out.c5
    have f0 := FIN.out.fz 0
    have f1 := FIN.out.fz 1
    have f2 := FIN.out.fz 2
    have f3 := FIN.out.fz 3
    have f4 := FIN.out.fz 4
    have f5 := FIN.out.fz 5
    go_wp2_with fail
    obtain ⟨_, _, _, _, _, _, _, d0, d1, d2, d3, d4, d5, hfin⟩ := FIN.out
    refine bodyPost_ret (by simp [results, Tryz.results135, go_sem, d0, d1, d2, d3, d4, d5, Result.andThen]; try rfl) rfl ?_
    exact hfin
end Go.Proofs.YtkjgkchdkeggoaaGreatDoor
