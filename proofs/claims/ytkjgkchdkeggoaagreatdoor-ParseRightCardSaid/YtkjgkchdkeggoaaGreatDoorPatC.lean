/-
  The reader's pat: what lies within one part.
-/
import Derived.Test.YtkjgkchdkeggoaaGreatDoorKeep
import Derived.Test.YtkjgkchdkeggoaaGreatDoorSmall
namespace Go.Proofs.YtkjgkchdkeggoaaGreatDoor
open Go.RowKit
set_option maxRecDepth 20000
set_option linter.unusedVariables false
set_option linter.unusedSimpArgs false

set_option maxHeartbeats 4000000 in
theorem patC_any (S : Src) (F : Nat) (rec : Nt → Nat → Nat → Out Pb) (d : Nat) (hs : Said S rec d) (hF0 : F ≤ 1000000000) (bx : Nat) (n : Nat) (w : World) (h : Rd w S n d) (hx0 : w.heap[bx]? = some (.cells #[.pointer (some ⟨S.g, 0, none⟩)] 56 (0, 0))) (hg0 : bx ≠ S.g) (hdry : patO S F rec d n ≠ .dry) :
    Calls Tryz.prog 68 #[.int .i64 (n : Int), .pointer (some ⟨bx, 0, none⟩)] w fun e w' => Ends S d w (patO S F rec d n) (RB w) e w' := by
  have hgl := h.lt
  have hgwl := h.row
  have hbd := h.bound
  have ST0 := Lib.hid (St.init h [(bx, Obj.cells #[.pointer (some ⟨S.g, 0, none⟩)] 56 (0, 0))] (fun p hp => by
    obtain rfl := List.mem_singleton.1 hp
    exact ⟨hx0, hg0⟩))
  have HS := Lib.hid hs
  have HM6 := Lib.hid (fun (e : S.kd n ≠ 0) => h.moreK e)
  have HM7 := Lib.hid (fun (e : n + 1 < S.ts.length) (e2 : S.is (n + 1) [97, 115] = true) => h.good.more e (by simp) e2)
  obtain ⟨tot, htot⟩ : ∃ tot, tot = patO S F rec d n := ⟨_, rfl⟩
  have HD : Hid (tot ≠ .dry) := Lib.hid (by rw [htot]; exact hdry)
  rw [← htot]
  unfold patO at htot
  have EQ0 := Lib.hid htot
  clear h hdry htot hs hx0 hg0
  cases h6 : S.kd n == 6
  · have e2 := EQ0.out
    simp only [h6, cond_false] at e2
    have EQ2 := Lib.hid e2
    clear e2 EQ0
    have e3 := EQ2.out
    simp only [Bool.false_and, cond_false] at e3
    have EQ3 := Lib.hid e3
    clear e3 EQ2
    cases h7 : S.kd n == 7
    · have e4 := EQ3.out
      simp only [h7, cond_false] at e4
      have EQ4 := Lib.hid e4
      clear e4 EQ3
      go_enter Tryz.func68, Tryz.ntmps68
      have qx0 := ST0.out.xc (b := bx) (v := .pointer (some ⟨S.g, 0, none⟩)) (T := 56) (by simp)
      have HP := Lib.hid (rkind_any S (n) d _ ST0.out.rd)
      go_wp2_with fail
      refine HP.out.mono ?_
      rintro e w5 ⟨rfl, hb⟩
      have ST6 := Lib.hid (ST0.out.below hb)
      clear hb ST0 HP
      clear qx0
      have qx0 := ST6.out.xc (b := bx) (v := .pointer (some ⟨S.g, 0, none⟩)) (T := 56) (by simp)
      have HP := Lib.hid (rkind_any S (n) d _ ST6.out.rd)
      go_wp2_with fail
      refine HP.out.mono ?_
      rintro e w7 ⟨rfl, hb⟩
      have ST8 := Lib.hid (ST6.out.below hb)
      clear hb ST6 HP
      clear qx0
      have qx0 := ST8.out.xc (b := bx) (v := .pointer (some ⟨S.g, 0, none⟩)) (T := 56) (by simp)
      have HC := Lib.hid (atomicPat_any S F rec d HS.out hF0 ((n)) _ ST8.out.rd (by rw [← EQ4.out]; exact HD.out))
      go_wp2_with fail
      refine HC.out.mono ?_
      rintro e w9 (⟨x9, n9, v9, hpo, rfl, ⟨y9, hv, hyl, hyo, rfl⟩, hr, hg⟩ | ⟨ch, ho, rfl, hg⟩)
      rotate_left
      · exact ⟨rfl, Or.inr ⟨ch, by rw [EQ4.out]; exact ho, rfl, ST8.out.pan hg⟩⟩
      have EQ10 := Lib.hid (EQ4.out.trans hpo)
      clear EQ4
      have HY9 := Lib.hid (And.intro hyl (hyo.mono (fun q hq => Nat.le_trans ST8.out.size hq) _))
      simp only [Hd.val] at hv
      subst hv
      have ST11 := Lib.hid (ST8.out.grow hr hg)
      clear hr hg ST8 hyl hyo hpo HC
      clear qx0
      have qx0 := ST11.out.xc (b := bx) (v := .pointer (some ⟨S.g, 0, none⟩)) (T := 56) (by simp)
      have FIN := Lib.hid (ST11.out.finY hgl hgwl HY9.out.1 HY9.out.2 EQ10.out)
      clear ST11 HY9 EQ10
      clear qx0
      have c0 := FIN.out.c0
      have c1 := FIN.out.c1
      have c2 := FIN.out.c2
      have c3 := FIN.out.c3
      have c4 := FIN.out.c4
      have c5 := FIN.out.c5
      have f0 := FIN.out.fz 0
      have f1 := FIN.out.fz 1
      have f2 := FIN.out.fz 2
      have f3 := FIN.out.fz 3
      have f4 := FIN.out.fz 4
      have f5 := FIN.out.fz 5
      go_wp2_with fail
      obtain ⟨_, _, _, _, _, _, _, d0, d1, d2, d3, d4, d5, hfin⟩ := FIN.out
      refine bodyPost_ret (by simp [results, Tryz.results68, go_sem, d0, d1, d2, d3, d4, d5, Result.andThen]; try rfl) rfl ?_
      exact hfin
    · have e4 := EQ3.out
      simp only [h7, cond_true] at e4
      have EQ4 := Lib.hid e4
      clear e4 EQ3
      go_enter Tryz.func68, Tryz.ntmps68
      have qx0 := ST0.out.xc (b := bx) (v := .pointer (some ⟨S.g, 0, none⟩)) (T := 56) (by simp)
      have HP := Lib.hid (rkind_any S (n) d _ ST0.out.rd)
      go_wp2_with fail
      refine HP.out.mono ?_
      rintro e w5 ⟨rfl, hb⟩
      have ST6 := Lib.hid (ST0.out.below hb)
      clear hb ST0 HP
      clear qx0
      have qx0 := ST6.out.xc (b := bx) (v := .pointer (some ⟨S.g, 0, none⟩)) (T := 56) (by simp)
      have HP := Lib.hid (rkind_any S (n) d _ ST6.out.rd)
      go_wp2_with fail
      refine HP.out.mono ?_
      rintro e w7 ⟨rfl, hb⟩
      have ST8 := Lib.hid (ST6.out.below hb)
      clear hb ST6 HP
      clear qx0
      have qx0 := ST8.out.xc (b := bx) (v := .pointer (some ⟨S.g, 0, none⟩)) (T := 56) (by simp)
      have HC := Lib.hid (path1 S ((n)) d 7 (by decide) _ ST8.out.rd (bind_dry (by rw [← EQ4.out]; exact HD.out)))
      go_wp2_with fail
      refine HC.out.mono ?_
      rintro e w9 (⟨x9, n9, v9, hpo, rfl, hv, hr, hg⟩ | ⟨ch, ho, rfl, hg⟩)
      rotate_left
      · exact ⟨rfl, Or.inr ⟨ch, by rw [EQ4.out]; exact pan_bind (ho), rfl, ST8.out.pan hg⟩⟩
      have e10 := EQ4.out
      rw [show _ = Out.ok _ _ from hpo, bind_ok] at e10
      have EQ10 := Lib.hid e10
      clear e10 EQ4
      have hz := ST8.out.size
      obtain ⟨p9, l9, c9, rfl⟩ := hv.form
      have ho := own_base hv hz
      have ST11 := Lib.hid ((ST8.out.grow hr hg).addN ho)
      clear hr hg ST8 hv ho hz hpo HC
      clear qx0
      have qx0 := ST11.out.xc (b := bx) (v := .pointer (some ⟨S.g, 0, none⟩)) (T := 56) (by simp)
      cases hbg : S.begins [[95]] n9
      · have e12 := EQ10.out
        simp only [hbg, cond_false] at e12
        have EQ12 := Lib.hid e12
        clear e12 EQ10
        have HP := Lib.hid (begins1 S (n9) d ⟨#[95]⟩ _ ST11.out.rd)
        simp only [hbg] at HP
        go_wp2_with fail
        refine HP.out.mono ?_
        rintro e w13 ⟨rfl, hb⟩
        have ST14 := Lib.hid (ST11.out.below hb)
        clear hb ST11 HP
        clear qx0
        have qx0 := ST14.out.xc (b := bx) (v := .pointer (some ⟨S.g, 0, none⟩)) (T := 56) (by simp)
        have HB := Lib.hid (rbranch_any S (n9) d 29 (n : Nat) p9 l9 c9 none 0 0 _ ST14.out.rd)
        go_wp2_with fail
        refine HB.out.mono ?_
        rintro e w15 ⟨rfl, hb⟩
        have ST16 := Lib.hid (ST14.out.below hb)
        clear hb ST14 HB
        clear qx0
        have qx0 := ST16.out.xc (b := bx) (v := .pointer (some ⟨S.g, 0, none⟩)) (T := 56) (by simp)
        have FIN := Lib.hid (ST16.out.fin (k := 29) (m := 0) (f := n) hgl hgwl (ST16.out.ns (.slice p9 l9 c9, x9) (by simp)) St.noK EQ12.out)
        clear ST16 EQ12
        clear qx0
        have c0 := FIN.out.c0
        have c1 := FIN.out.c1
        have c2 := FIN.out.c2
        have c3 := FIN.out.c3
        have c4 := FIN.out.c4
        have c5 := FIN.out.c5
        have f0 := FIN.out.fz 0
        have f1 := FIN.out.fz 1
        have f2 := FIN.out.fz 2
        have f3 := FIN.out.fz 3
        have f4 := FIN.out.fz 4
        have f5 := FIN.out.fz 5
        go_wp2_with fail
        obtain ⟨_, _, _, _, _, _, _, d0, d1, d2, d3, d4, d5, hfin⟩ := FIN.out
        refine bodyPost_ret (by simp [results, Tryz.results68, go_sem, d0, d1, d2, d3, d4, d5, Result.andThen]; try rfl) rfl ?_
        exact hfin
      · have e12 := EQ10.out
        simp only [hbg, cond_true] at e12
        have EQ12 := Lib.hid e12
        clear e12 EQ10
        have HP := Lib.hid (begins1 S (n9) d ⟨#[95]⟩ _ ST11.out.rd)
        simp only [hbg] at HP
        go_wp2_with fail
        refine HP.out.mono ?_
        rintro e w13 ⟨rfl, hb⟩
        have ST14 := Lib.hid (ST11.out.below hb)
        clear hb ST11 HP
        clear qx0
        have qx0 := ST14.out.xc (b := bx) (v := .pointer (some ⟨S.g, 0, none⟩)) (T := 56) (by simp)
        go_wp2_with fail
        refine wp_region_till (fun W : World => W.heap[bx]? = some (.cells #[.pointer (some ⟨S.g, 0, none⟩)] 56 (0, 0))) 7 (by kernel_rfl) ?_
        have STd := Lib.hid (ST14.out.below (Below.refl w13.heap.size w13).drew)
        refine start_fp (N := 54) [(0, .int .i64 (n : Int)), (1, .pointer (some ⟨bx, 0, none⟩)), (3, .pointer (some ⟨w.heap.size, 0, none⟩)), (4, .slice p9 l9 c9)] (Fs.of rfl rfl (by simp [Act.eval])) ?_
        intro a0 ha0 hF
        clear ST14 qx0
        generalize w13.drew = w15 at *
        have hS : (fun W : World => W.heap[bx]? = some (.cells #[.pointer (some ⟨S.g, 0, none⟩)] 56 (0, 0))) w15 := (STd.out.x (bx, Obj.cells #[.pointer (some ⟨S.g, 0, none⟩)] 56 (0, 0)) (by simp)).1
        refine take_fp 0 [6, 7] (oi := { dst := some 41, op := Op.load 56 (Operand.tmp 1), type := 56, pos := "terms.go:133", after := #[], guard := none }) (d := 41) (v := .pointer (some ⟨S.g, 0, none⟩)) hF hS rfl rfl (by decide) (by kernel_rfl) (by kernel_rfl) (by kernel_rfl) (by kernel_rfl) (fun _ _ _ h => h) (fun a' hA => wanted_none rfl) (fun a' hA w' hw => by have e1 := hA.get 1 rfl; have ec : ∀ v, a'.eval (.const v) = v := fun _ => rfl; have q0 := Lib.cell_of_heap hw 0; simp only [List.getElem?_toArray, List.getElem?_cons_zero] at q0; clear hA; generalize a'.eval = ρ at *; simp [go_sem, ec, e1, q0]; try rfl) ?_
        clear hF
        intro hF
        refine take_fp 1 [6, 7] (oi := { dst := some 42, op := Op.move (Operand.tmp 0), type := 3, pos := "terms.go:133", after := #[], guard := none }) (d := 42) (v := .int .i64 (n : Int)) hF hS rfl rfl (by decide) (by kernel_rfl) (by kernel_rfl) (by kernel_rfl) (by kernel_rfl) (fun _ _ _ h => h) (fun a' hA => wanted_none rfl) (run_move_fs rfl rfl) ?_
        clear hF
        intro hF
        refine take_fp 2 [6, 7] (oi := { dst := some 43, op := Op.move (Operand.tmp 4), type := 23, pos := "terms.go:133", after := #[], guard := none }) (d := 43) (v := .slice p9 l9 c9) hF hS rfl rfl (by decide) (by kernel_rfl) (by kernel_rfl) (by kernel_rfl) (by kernel_rfl) (fun _ _ _ h => h) (fun a' hA => wanted_none rfl) (run_move_fs rfl rfl) ?_
        clear hF
        intro hF
        refine take_fp 3 [4, 5, 6, 7] (oi := { dst := some 44, op := Op.load 56 (Operand.tmp 1), type := 56, pos := "terms.go:133", after := #[], guard := none }) (d := 44) (v := .pointer (some ⟨S.g, 0, none⟩)) hF hS rfl rfl (by decide) (by kernel_rfl) (by kernel_rfl) (by kernel_rfl) (by kernel_rfl) (fun _ _ _ h => h) (fun a' hA => wanted_none rfl) (fun a' hA w' hw => by have e1 := hA.get 1 rfl; have ec : ∀ v, a'.eval (.const v) = v := fun _ => rfl; have q0 := Lib.cell_of_heap hw 0; simp only [List.getElem?_toArray, List.getElem?_cons_zero] at q0; clear hA; generalize a'.eval = ρ at *; simp [go_sem, ec, e1, q0]; try rfl) ?_
        clear hF
        intro hF
        refine wpTill_alone 4 (by kernel_rfl) ?_
        have HT := Lib.hid (atomicPat_any S F rec d HS.out hF0 ((n9)) _ STd.out.rd (bind_dry (by rw [← EQ12.out]; exact HD.out)))
        refine call_op 4 (oi := { dst := some 45, op := Op.call { callee := Callee.value (Operand.func 72), args := #[Operand.tmp 44], argTypes := #[56] }, type := 26, pos := "terms.go:133", after := #[{ on := 3, ground := Ground.data }], guard := none }) (d := 45) (R := fun e w' => Ends S d w15 (atomicPatO S F rec d ((n9))) (RB w15) e w') hF rfl rfl (by decide) (fun a' hA => wanted_none rfl) (fun a' hA => by have e44 := hA.get 44 rfl; have ef : ∀ f, a'.eval (.func f) = .func (.func f) #[] #[] := fun _ => rfl; have ec : ∀ v, a'.eval (.const v) = v := fun _ => rfl; clear hA; generalize a'.eval = ρ at *; simp [go_sem, ef, ec, e44]) HT.out (fun w' => Ends.noOut) ?_ ?_
        · rintro ch w' (⟨_, _, _, _, h2, _⟩ | ⟨ch', ho, h2, hg⟩)
          · cases h2
          · have h2 := Ending.panicked.inj h2
            subst h2
            have hq : bodyPost Tryz.prog Tryz.f68 (fun e w' => Ends S d w tot (RB w) e w') (.panic ch) _ w' := ⟨hF.2.1, Or.inr ⟨ch, by rw [EQ12.out]; exact pan_bind ho, rfl, STd.out.pan hg⟩⟩
            exact hq
        rintro v w16 (⟨x16, n16, v16, hpo, h2, ⟨y16, hv, hyl, hyo, rfl⟩, hr, hg⟩ | ⟨_, _, h2, _⟩) hF2
        rotate_left
        · cases h2
        have h2 := Ending.returned.inj h2
        subst h2
        have e17 := EQ12.out
        rw [show _ = Out.ok _ _ from hpo, bind_ok] at e17
        have EQ17 := Lib.hid e17
        clear e17 EQ12 hS
        have hv2 : v = .agg #[.int .i64 y16.h.k, .int .i64 y16.h.m, .int .i64 y16.h.f, .int .i64 y16.h.t, .slice y16.h.np y16.h.nn y16.h.nc, .slice y16.h.kp y16.h.kn y16.h.kc] := hv
        subst hv2
        clear hv hF
        have hF := hF2
        clear hF2
        have HY16 := Lib.hid (And.intro hyl (hyo.mono (fun q hq => Nat.le_trans STd.out.size hq) _))
        have ST18 := Lib.hid (STd.out.grow hr hg)
        clear hr hg STd hyl hyo hpo HT
        have hS : (fun W : World => W.heap[bx]? = some (.cells #[.pointer (some ⟨S.g, 0, none⟩)] 56 (0, 0))) w16 := (ST18.out.x (bx, Obj.cells #[.pointer (some ⟨S.g, 0, none⟩)] 56 (0, 0)) (by simp)).1
        refine ⟨fun _ => hS, ?_⟩
        refine wpTill_alone 5 (by kernel_rfl) ?_
        have hys : ∀ u ∈ [y16], u.Lies w16 ∧ u.On (fun q => (w.alloc boxZ).heap.size ≤ q) := (List.forall_mem_cons.2 ⟨HY16.out, (fun _ h => nomatch h)⟩)
        have hnew : St S _ d _ (w16.alloc (.cells #[.int .i64 y16.h.k, .int .i64 y16.h.m, .int .i64 y16.h.f, .int .i64 y16.h.t, .slice y16.h.np y16.h.nn y16.h.nc, .slice y16.h.kp y16.h.kn y16.h.kc] 26)) _ := ST18.out.newK [y16] (by simp) hys
        clear hys
        have HY20 := Lib.hid (And.intro (HY16.out.1.step _ ((Below.refl w16.heap.size w16).alloc (Nat.le_refl _) (.cells #[.int .i64 y16.h.k, .int .i64 y16.h.m, .int .i64 y16.h.f, .int .i64 y16.h.t, .slice y16.h.np y16.h.nn y16.h.nc, .slice y16.h.kp y16.h.kn y16.h.kc] 26))) HY16.out.2)
        have STn := Lib.hid hnew
        clear hnew hS
        refine make_op 5 (oi := { dst := some 46, op := Op.buildSlice 24 1 #[(0, Operand.tmp 45)], type := 24, pos := "terms.go:133", after := #[{ on := 4, ground := Ground.data }], guard := none }) (d := 46) (v := .slice (some ⟨w16.heap.size, 0, none⟩) 1 1) (w' := w16.alloc (.cells #[.int .i64 y16.h.k, .int .i64 y16.h.m, .int .i64 y16.h.f, .int .i64 y16.h.t, .slice y16.h.np y16.h.nn y16.h.nc, .slice y16.h.kp y16.h.kn y16.h.kc] 26)) hF rfl rfl (by decide) (fun a' hA => wanted_none rfl) (fun a' hA => by have e45 := hA.get 45 rfl; have ec : ∀ v, a'.eval (.const v) = v := fun _ => rfl; clear hA; generalize a'.eval = ρ at *; simp [go_sem, ec, e45]; try rfl) ?_
        clear hF
        intro hF
        clear ST18
        generalize w16.alloc (.cells #[.int .i64 y16.h.k, .int .i64 y16.h.m, .int .i64 y16.h.f, .int .i64 y16.h.t, .slice y16.h.np y16.h.nn y16.h.nc, .slice y16.h.kp y16.h.kn y16.h.kc] 26) = w19 at *
        generalize hgz19 : w16.heap.size = g19 at *
        have ST19 := STn
        clear STn
        have hS : (fun W : World => W.heap[bx]? = some (.cells #[.pointer (some ⟨S.g, 0, none⟩)] 56 (0, 0))) w19 := (ST19.out.x (bx, Obj.cells #[.pointer (some ⟨S.g, 0, none⟩)] 56 (0, 0)) (by simp)).1
        refine ⟨fun _ => hS, ?_⟩
        refine wpTill_alone 6 (by kernel_rfl) ?_
        have HT := Lib.hid (rbranch_any S (n16) d 29 (n : Nat) p9 l9 c9 (some ⟨g19, 0, none⟩) 1 1 _ ST19.out.rd)
        refine call_op 6 (oi := { dst := some 47, op := Op.call { callee := Callee.value (Operand.func 38), args := #[Operand.tmp 41, Operand.const (Value.int IntKind.i64 29), Operand.tmp 42, Operand.tmp 43, Operand.tmp 46], argTypes := #[56, 3, 3, 23, 24] }, type := 26, pos := "terms.go:133", after := #[{ on := 0, ground := Ground.data }, { on := 1, ground := Ground.data }, { on := 2, ground := Ground.data }, { on := 5, ground := Ground.data }, { on := 4, ground := Ground.chain }], guard := none }) (d := 47) (R := fun e w' => e = .returned (.agg #[.int .i64 29, .int .i64 0, .int .i64 (n : Int), .int .i64 (n16 : Int), .slice p9 l9 c9, .slice (some ⟨g19, 0, none⟩) 1 1]) ∧ Below w19.heap.size w19 w') hF rfl rfl (by decide) (fun a' hA => wanted_none rfl) (fun a' hA => by have e41 := hA.get 41 rfl; have e42 := hA.get 42 rfl; have e43 := hA.get 43 rfl; have e46 := hA.get 46 rfl; have ef : ∀ f, a'.eval (.func f) = .func (.func f) #[] #[] := fun _ => rfl; have ec : ∀ v, a'.eval (.const v) = v := fun _ => rfl; clear hA; generalize a'.eval = ρ at *; simp [go_sem, ef, ec, e41, e42, e43, e46]) HT.out (by rintro w' ⟨h, _⟩; cases h) ?_ ?_
        · rintro ch w' ⟨h, _⟩
          cases h
        rintro v w21 ⟨h, hb⟩
        have h := Ending.returned.inj h
        subst h
        intro hF2
        clear hF hS
        have hF := hF2
        clear hF2
        have ST21 := Lib.hid (ST19.out.below hb)
        clear hb ST19 HT
        have hS : (fun W : World => W.heap[bx]? = some (.cells #[.pointer (some ⟨S.g, 0, none⟩)] 56 (0, 0))) w21 := (ST21.out.x (bx, Obj.cells #[.pointer (some ⟨S.g, 0, none⟩)] 56 (0, 0)) (by simp)).1
        refine ⟨fun _ => hS, ?_⟩
        refine wpTill_alone 7 (by kernel_rfl) ?_
        have FIN := Lib.hid (ST21.out.fin (k := 29) (m := 0) (f := n) hgl hgwl (ST21.out.ns (.slice p9 l9 c9, x9) (by simp)) (ST21.out.ks (.slice (some ⟨g19, 0, none⟩) 1 1, [y16]) (by simp)) EQ17.out)
        refine store_op 7 (oi := { dst := none, op := Op.store 26 (Operand.tmp 3) (Operand.tmp 47), type := 0, pos := "terms.go:133", after := #[{ on := 6, ground := Ground.data }, { on := 6, ground := Ground.chain }, { on := 0, ground := Ground.phase }, { on := 1, ground := Ground.phase }, { on := 2, ground := Ground.phase }, { on := 3, ground := Ground.phase }, { on := 4, ground := Ground.phase }, { on := 5, ground := Ground.phase }, { on := 6, ground := Ground.phase }], guard := none }) (w' := ((((((w21.setCell ⟨w.heap.size, 0, none⟩ (.int .i64 29)).setCell ⟨w.heap.size, 1, none⟩ (.int .i64 0)).setCell ⟨w.heap.size, 2, none⟩ (.int .i64 (n : Int))).setCell ⟨w.heap.size, 3, none⟩ (.int .i64 (n16 : Int))).setCell ⟨w.heap.size, 4, none⟩ (.slice p9 l9 c9)).setCell ⟨w.heap.size, 5, none⟩ (.slice (some ⟨g19, 0, none⟩) 1 1))) hF rfl rfl (fun a' hA => wanted_none rfl) (fun a' hA => ?_) ?_
        · have e1 := hA.get 3 rfl
          have e2 := hA.get 47 rfl
          have c0 := FIN.out.c0
          have c1 := FIN.out.c1
          have c2 := FIN.out.c2
          have c3 := FIN.out.c3
          have c4 := FIN.out.c4
          have c5 := FIN.out.c5
          have f0 := FIN.out.fz 0
          have f1 := FIN.out.fz 1
          have f2 := FIN.out.fz 2
          have f3 := FIN.out.fz 3
          have f4 := FIN.out.fz 4
          have f5 := FIN.out.fz 5
          clear hA hF
          generalize a'.eval = ρ at *
          simp [go_sem, e1, e2, c0, c1, c2, c3, c4, c5, f0, f1, f2, f3, f4, f5]
        refine ⟨fun h => absurd h (by decide), ?_⟩
        refine wpTill_done (by kernel_rfl) ?_ _
        subst ha0
        simp only [Act.put, List.setIfInBounds_toArray, List.set_cons_zero, List.set_cons_succ]
        clear hF hS ST21 EQ17
        go_wp2_with fail
        obtain ⟨_, _, _, _, _, _, _, d0, d1, d2, d3, d4, d5, hfin⟩ := FIN.out
        refine bodyPost_ret (by simp [results, Tryz.results68, go_sem, d0, d1, d2, d3, d4, d5, Result.andThen]; try rfl) rfl ?_
        exact hfin
  · have e2 := EQ0.out
    simp only [h6, cond_true] at e2
    have EQ2 := Lib.hid e2
    clear e2 EQ0
    have e3 := EQ2.out
    simp only [Bool.true_and] at e3
    have EQ3 := Lib.hid e3
    clear e3 EQ2
    have h6e : S.kd n = 6 := by simpa using h6
    have hm1 : n + 1 < S.ts.length := HM6.out (by omega)
    have h7 : (S.kd n == 7) = false := by rw [h6e]; rfl
    cases has : S.is (n + 1) [97, 115]
    · have e4 := EQ3.out
      simp only [has, cond_false] at e4
      have EQ4 := Lib.hid e4
      clear e4 EQ3
      have e5 := EQ4.out
      simp only [h7, cond_false] at e5
      have EQ5 := Lib.hid e5
      clear e5 EQ4
      have htx := is_tx has
      go_enter Tryz.func68, Tryz.ntmps68
      have qx0 := ST0.out.xc (b := bx) (v := .pointer (some ⟨S.g, 0, none⟩)) (T := 56) (by simp)
      have HP := Lib.hid (rkind_any S (n) d _ ST0.out.rd)
      go_wp2_with fail
      refine HP.out.mono ?_
      rintro e w6 ⟨rfl, hb⟩
      have ST7 := Lib.hid (ST0.out.below hb)
      clear hb ST0 HP
      clear qx0
      have qx0 := ST7.out.xc (b := bx) (v := .pointer (some ⟨S.g, 0, none⟩)) (T := 56) (by simp)
      have HP := Lib.hid (rtext_any S (n) d (n + 1) _ ST7.out.rd hm1)
      rw [show ((n + 1 : Nat) : Int) = ((n : Nat) : Int) + 1 by omega] at HP
      go_wp2_with fail
      refine HP.out.mono ?_
      rintro e w8 ⟨rfl, hb⟩
      have ST9 := Lib.hid (ST7.out.below hb)
      clear hb ST7 HP
      clear qx0
      have qx0 := ST9.out.xc (b := bx) (v := .pointer (some ⟨S.g, 0, none⟩)) (T := 56) (by simp)
      have HP := Lib.hid (rkind_any S (n) d _ ST9.out.rd)
      go_wp2_with fail
      refine HP.out.mono ?_
      rintro e w10 ⟨rfl, hb⟩
      have ST11 := Lib.hid (ST9.out.below hb)
      clear hb ST9 HP
      clear qx0
      have qx0 := ST11.out.xc (b := bx) (v := .pointer (some ⟨S.g, 0, none⟩)) (T := 56) (by simp)
      have HC := Lib.hid (atomicPat_any S F rec d HS.out hF0 ((n)) _ ST11.out.rd (by rw [← EQ5.out]; exact HD.out))
      go_wp2_with fail
      refine HC.out.mono ?_
      rintro e w12 (⟨x12, n12, v12, hpo, rfl, ⟨y12, hv, hyl, hyo, rfl⟩, hr, hg⟩ | ⟨ch, ho, rfl, hg⟩)
      rotate_left
      · exact ⟨rfl, Or.inr ⟨ch, by rw [EQ5.out]; exact ho, rfl, ST11.out.pan hg⟩⟩
      have EQ13 := Lib.hid (EQ5.out.trans hpo)
      clear EQ5
      have HY12 := Lib.hid (And.intro hyl (hyo.mono (fun q hq => Nat.le_trans ST11.out.size hq) _))
      simp only [Hd.val] at hv
      subst hv
      have ST14 := Lib.hid (ST11.out.grow hr hg)
      clear hr hg ST11 hyl hyo hpo HC
      clear qx0
      have qx0 := ST14.out.xc (b := bx) (v := .pointer (some ⟨S.g, 0, none⟩)) (T := 56) (by simp)
      have FIN := Lib.hid (ST14.out.finY hgl hgwl HY12.out.1 HY12.out.2 EQ13.out)
      clear ST14 HY12 EQ13
      clear qx0
      have c0 := FIN.out.c0
      have c1 := FIN.out.c1
      have c2 := FIN.out.c2
      have c3 := FIN.out.c3
      have c4 := FIN.out.c4
      have c5 := FIN.out.c5
      have f0 := FIN.out.fz 0
      have f1 := FIN.out.fz 1
      have f2 := FIN.out.fz 2
      have f3 := FIN.out.fz 3
      have f4 := FIN.out.fz 4
      have f5 := FIN.out.fz 5
      go_wp2_with fail
      obtain ⟨_, _, _, _, _, _, _, d0, d1, d2, d3, d4, d5, hfin⟩ := FIN.out
      refine bodyPost_ret (by simp [results, Tryz.results68, go_sem, d0, d1, d2, d3, d4, d5, Result.andThen]; try rfl) rfl ?_
      exact hfin
    · have e4 := EQ3.out
      simp only [has, cond_true] at e4
      have EQ4 := Lib.hid e4
      clear e4 EQ3
      have htx := is_tx has
      have hm2 : n + 1 + 1 < S.ts.length := HM7.out hm1 has
      go_enter Tryz.func68, Tryz.ntmps68
      have qx0 := ST0.out.xc (b := bx) (v := .pointer (some ⟨S.g, 0, none⟩)) (T := 56) (by simp)
      have HP := Lib.hid (rkind_any S (n) d _ ST0.out.rd)
      go_wp2_with fail
      refine HP.out.mono ?_
      rintro e w5 ⟨rfl, hb⟩
      have ST6 := Lib.hid (ST0.out.below hb)
      clear hb ST0 HP
      clear qx0
      have qx0 := ST6.out.xc (b := bx) (v := .pointer (some ⟨S.g, 0, none⟩)) (T := 56) (by simp)
      have HP := Lib.hid (rtext_any S (n) d (n + 1) _ ST6.out.rd hm1)
      rw [show ((n + 1 : Nat) : Int) = ((n : Nat) : Int) + 1 by omega] at HP
      go_wp2_with fail
      refine HP.out.mono ?_
      rintro e w7 ⟨rfl, hb⟩
      have ST8 := Lib.hid (ST6.out.below hb)
      clear hb ST6 HP
      clear qx0
      have qx0 := ST8.out.xc (b := bx) (v := .pointer (some ⟨S.g, 0, none⟩)) (T := 56) (by simp)
      have q2 := ST8.out.rd.c2
      have fz2 := ST8.out.rd.free 2
      have STm := Lib.hid (ST8.out.moved (n + 2) hm2 ((n : Int) + 2) (by omega))
      clear ST8
      go_wp2_with fail
      refine wp_region_till (fun W : World => W.heap[bx]? = some (.cells #[.pointer (some ⟨S.g, 0, none⟩)] 56 (0, 0))) 8 (by kernel_rfl) ?_
      have STd := Lib.hid (STm.out.below (Below.refl (w7.setCell ⟨S.g, 2, none⟩ (.int .i64 ((n : Int) + 2))).heap.size (w7.setCell ⟨S.g, 2, none⟩ (.int .i64 ((n : Int) + 2)))).drew)
      refine start_fp (N := 54) [(0, .int .i64 (n : Int)), (1, .pointer (some ⟨bx, 0, none⟩)), (3, .pointer (some ⟨w.heap.size, 0, none⟩))] (Fs.of rfl rfl (by simp [Act.eval])) ?_
      intro a0 ha0 hF
      clear STm qx0 q2 fz2
      generalize (w7.setCell ⟨S.g, 2, none⟩ (.int .i64 ((n : Int) + 2))).drew = w9 at *
      have hS : (fun W : World => W.heap[bx]? = some (.cells #[.pointer (some ⟨S.g, 0, none⟩)] 56 (0, 0))) w9 := (STd.out.x (bx, Obj.cells #[.pointer (some ⟨S.g, 0, none⟩)] 56 (0, 0)) (by simp)).1
      refine take_fp 0 [7, 8] (oi := { dst := some 23, op := Op.load 56 (Operand.tmp 1), type := 56, pos := "terms.go:129", after := #[], guard := none }) (d := 23) (v := .pointer (some ⟨S.g, 0, none⟩)) hF hS rfl rfl (by decide) (by kernel_rfl) (by kernel_rfl) (by kernel_rfl) (by kernel_rfl) (fun _ _ _ h => h) (fun a' hA => wanted_none rfl) (fun a' hA w' hw => by have e1 := hA.get 1 rfl; have ec : ∀ v, a'.eval (.const v) = v := fun _ => rfl; have q0 := Lib.cell_of_heap hw 0; simp only [List.getElem?_toArray, List.getElem?_cons_zero] at q0; clear hA; generalize a'.eval = ρ at *; simp [go_sem, ec, e1, q0]; try rfl) ?_
      clear hF
      intro hF
      refine take_fp 1 [7, 8] (oi := { dst := some 24, op := Op.move (Operand.tmp 0), type := 3, pos := "terms.go:129", after := #[], guard := none }) (d := 24) (v := .int .i64 (n : Int)) hF hS rfl rfl (by decide) (by kernel_rfl) (by kernel_rfl) (by kernel_rfl) (by kernel_rfl) (fun _ _ _ h => h) (fun a' hA => wanted_none rfl) (run_move_fs rfl rfl) ?_
      clear hF
      intro hF
      refine take_fp 2 [3, 7, 8] (oi := { dst := some 25, op := Op.move (Operand.tmp 0), type := 3, pos := "terms.go:129", after := #[], guard := none }) (d := 25) (v := .int .i64 (n : Int)) hF hS rfl rfl (by decide) (by kernel_rfl) (by kernel_rfl) (by kernel_rfl) (by kernel_rfl) (fun _ _ _ h => h) (fun a' hA => wanted_none rfl) (run_move_fs rfl rfl) ?_
      clear hF
      intro hF
      refine take_fp 4 [5, 6, 7, 8] (oi := { dst := some 27, op := Op.load 56 (Operand.tmp 1), type := 56, pos := "terms.go:129", after := #[], guard := none }) (d := 27) (v := .pointer (some ⟨S.g, 0, none⟩)) hF hS rfl rfl (by decide) (by kernel_rfl) (by kernel_rfl) (by kernel_rfl) (by kernel_rfl) (fun _ _ _ h => h) (fun a' hA => wanted_none rfl) (fun a' hA w' hw => by have e1 := hA.get 1 rfl; have ec : ∀ v, a'.eval (.const v) = v := fun _ => rfl; have q0 := Lib.cell_of_heap hw 0; simp only [List.getElem?_toArray, List.getElem?_cons_zero] at q0; clear hA; generalize a'.eval = ρ at *; simp [go_sem, ec, e1, q0]; try rfl) ?_
      clear hF
      intro hF
      refine wpTill_two 3 5 (by kernel_rfl) (fun _ => ?_) (fun _ => ?_)
      · have hnew : St S _ d _ (w9.alloc (.cells #[.int .i64 (n : Int)] 3)) _ := STd.out.newN [n] (by simp)
        have STn := Lib.hid hnew
        clear hnew hS
        refine make_op 3 (oi := { dst := some 26, op := Op.buildSlice 23 1 #[(0, Operand.tmp 25)], type := 23, pos := "terms.go:129", after := #[{ on := 2, ground := Ground.data }], guard := none }) (d := 26) (v := .slice (some ⟨w9.heap.size, 0, none⟩) 1 1) (w' := w9.alloc (.cells #[.int .i64 (n : Int)] 3)) hF rfl rfl (by decide) (fun a' hA => wanted_none rfl) (fun a' hA => by have e25 := hA.get 25 rfl; have ec : ∀ v, a'.eval (.const v) = v := fun _ => rfl; clear hA; generalize a'.eval = ρ at *; simp [go_sem, ec, e25]; try rfl) ?_
        clear hF
        intro hF
        clear STd
        generalize w9.alloc (.cells #[.int .i64 (n : Int)] 3) = w10 at *
        generalize hgz10 : w9.heap.size = g10 at *
        have ST10 := STn
        clear STn
        have hS : (fun W : World => W.heap[bx]? = some (.cells #[.pointer (some ⟨S.g, 0, none⟩)] 56 (0, 0))) w10 := (ST10.out.x (bx, Obj.cells #[.pointer (some ⟨S.g, 0, none⟩)] 56 (0, 0)) (by simp)).1
        refine ⟨fun _ => hS, ?_⟩
        refine wpTill_alone 5 (by kernel_rfl) ?_
        have HT := Lib.hid (HS.out.pat ((n + 2)) _ ST10.out.rd (bind_dry (by rw [← EQ4.out]; exact HD.out)))
        refine call_op 5 (oi := { dst := some 28, op := Op.call { callee := Callee.value (Operand.func 41), args := #[Operand.tmp 27], argTypes := #[56] }, type := 26, pos := "terms.go:129", after := #[{ on := 4, ground := Ground.data }], guard := none }) (d := 28) (R := fun e w' => Ends S d w10 (rec .pat d ((n + 2))) (RB w10) e w') hF rfl rfl (by decide) (fun a' hA => wanted_none rfl) (fun a' hA => by have e27 := hA.get 27 rfl; have ef : ∀ f, a'.eval (.func f) = .func (.func f) #[] #[] := fun _ => rfl; have ec : ∀ v, a'.eval (.const v) = v := fun _ => rfl; clear hA; generalize a'.eval = ρ at *; simp [go_sem, ef, ec, e27]) HT.out (fun w' => Ends.noOut) ?_ ?_
        · rintro ch w' (⟨_, _, _, _, h2, _⟩ | ⟨ch', ho, h2, hg⟩)
          · cases h2
          · have h2 := Ending.panicked.inj h2
            subst h2
            have hq : bodyPost Tryz.prog Tryz.f68 (fun e w' => Ends S d w tot (RB w) e w') (.panic ch) _ w' := ⟨hF.2.1, Or.inr ⟨ch, by rw [EQ4.out]; exact pan_bind ho, rfl, ST10.out.pan hg⟩⟩
            exact hq
        rintro v w11 (⟨x11, n11, v11, hpo, h2, ⟨y11, hv, hyl, hyo, rfl⟩, hr, hg⟩ | ⟨_, _, h2, _⟩) hF2
        rotate_left
        · cases h2
        have h2 := Ending.returned.inj h2
        subst h2
        have e12 := EQ4.out
        rw [show _ = Out.ok _ _ from hpo, bind_ok] at e12
        have EQ12 := Lib.hid e12
        clear e12 EQ4 hS
        have hv2 : v = .agg #[.int .i64 y11.h.k, .int .i64 y11.h.m, .int .i64 y11.h.f, .int .i64 y11.h.t, .slice y11.h.np y11.h.nn y11.h.nc, .slice y11.h.kp y11.h.kn y11.h.kc] := hv
        subst hv2
        clear hv hF
        have hF := hF2
        clear hF2
        have HY11 := Lib.hid (And.intro hyl (hyo.mono (fun q hq => Nat.le_trans ST10.out.size hq) _))
        have ST13 := Lib.hid (ST10.out.grow hr hg)
        clear hr hg ST10 hyl hyo hpo HT
        have hS : (fun W : World => W.heap[bx]? = some (.cells #[.pointer (some ⟨S.g, 0, none⟩)] 56 (0, 0))) w11 := (ST13.out.x (bx, Obj.cells #[.pointer (some ⟨S.g, 0, none⟩)] 56 (0, 0)) (by simp)).1
        refine ⟨fun _ => hS, ?_⟩
        refine wpTill_alone 6 (by kernel_rfl) ?_
        have hys : ∀ u ∈ [y11], u.Lies w11 ∧ u.On (fun q => (w.alloc boxZ).heap.size ≤ q) := (List.forall_mem_cons.2 ⟨HY11.out, (fun _ h => nomatch h)⟩)
        have hnew : St S _ d _ (w11.alloc (.cells #[.int .i64 y11.h.k, .int .i64 y11.h.m, .int .i64 y11.h.f, .int .i64 y11.h.t, .slice y11.h.np y11.h.nn y11.h.nc, .slice y11.h.kp y11.h.kn y11.h.kc] 26)) _ := ST13.out.newK [y11] (by simp) hys
        clear hys
        have HY15 := Lib.hid (And.intro (HY11.out.1.step _ ((Below.refl w11.heap.size w11).alloc (Nat.le_refl _) (.cells #[.int .i64 y11.h.k, .int .i64 y11.h.m, .int .i64 y11.h.f, .int .i64 y11.h.t, .slice y11.h.np y11.h.nn y11.h.nc, .slice y11.h.kp y11.h.kn y11.h.kc] 26))) HY11.out.2)
        have STn := Lib.hid hnew
        clear hnew hS
        refine make_op 6 (oi := { dst := some 29, op := Op.buildSlice 24 1 #[(0, Operand.tmp 28)], type := 24, pos := "terms.go:129", after := #[{ on := 5, ground := Ground.data }], guard := none }) (d := 29) (v := .slice (some ⟨w11.heap.size, 0, none⟩) 1 1) (w' := w11.alloc (.cells #[.int .i64 y11.h.k, .int .i64 y11.h.m, .int .i64 y11.h.f, .int .i64 y11.h.t, .slice y11.h.np y11.h.nn y11.h.nc, .slice y11.h.kp y11.h.kn y11.h.kc] 26)) hF rfl rfl (by decide) (fun a' hA => wanted_none rfl) (fun a' hA => by have e28 := hA.get 28 rfl; have ec : ∀ v, a'.eval (.const v) = v := fun _ => rfl; clear hA; generalize a'.eval = ρ at *; simp [go_sem, ec, e28]; try rfl) ?_
        clear hF
        intro hF
        clear ST13
        generalize w11.alloc (.cells #[.int .i64 y11.h.k, .int .i64 y11.h.m, .int .i64 y11.h.f, .int .i64 y11.h.t, .slice y11.h.np y11.h.nn y11.h.nc, .slice y11.h.kp y11.h.kn y11.h.kc] 26) = w14 at *
        generalize hgz14 : w11.heap.size = g14 at *
        have ST14 := STn
        clear STn
        have hS : (fun W : World => W.heap[bx]? = some (.cells #[.pointer (some ⟨S.g, 0, none⟩)] 56 (0, 0))) w14 := (ST14.out.x (bx, Obj.cells #[.pointer (some ⟨S.g, 0, none⟩)] 56 (0, 0)) (by simp)).1
        refine ⟨fun _ => hS, ?_⟩
        refine wpTill_alone 7 (by kernel_rfl) ?_
        have HT := Lib.hid (rbranch_any S (n11) d 40 (n : Nat) (some ⟨g10, 0, none⟩) 1 1 (some ⟨g14, 0, none⟩) 1 1 _ ST14.out.rd)
        refine call_op 7 (oi := { dst := some 30, op := Op.call { callee := Callee.value (Operand.func 38), args := #[Operand.tmp 23, Operand.const (Value.int IntKind.i64 40), Operand.tmp 24, Operand.tmp 26, Operand.tmp 29], argTypes := #[56, 3, 3, 23, 24] }, type := 26, pos := "terms.go:129", after := #[{ on := 0, ground := Ground.data }, { on := 1, ground := Ground.data }, { on := 3, ground := Ground.data }, { on := 6, ground := Ground.data }, { on := 5, ground := Ground.chain }], guard := none }) (d := 30) (R := fun e w' => e = .returned (.agg #[.int .i64 40, .int .i64 0, .int .i64 (n : Int), .int .i64 (n11 : Int), .slice (some ⟨g10, 0, none⟩) 1 1, .slice (some ⟨g14, 0, none⟩) 1 1]) ∧ Below w14.heap.size w14 w') hF rfl rfl (by decide) (fun a' hA => wanted_none rfl) (fun a' hA => by have e23 := hA.get 23 rfl; have e24 := hA.get 24 rfl; have e26 := hA.get 26 rfl; have e29 := hA.get 29 rfl; have ef : ∀ f, a'.eval (.func f) = .func (.func f) #[] #[] := fun _ => rfl; have ec : ∀ v, a'.eval (.const v) = v := fun _ => rfl; clear hA; generalize a'.eval = ρ at *; simp [go_sem, ef, ec, e23, e24, e26, e29]) HT.out (by rintro w' ⟨h, _⟩; cases h) ?_ ?_
        · rintro ch w' ⟨h, _⟩
          cases h
        rintro v w16 ⟨h, hb⟩
        have h := Ending.returned.inj h
        subst h
        intro hF2
        clear hF hS
        have hF := hF2
        clear hF2
        have ST16 := Lib.hid (ST14.out.below hb)
        clear hb ST14 HT
        have hS : (fun W : World => W.heap[bx]? = some (.cells #[.pointer (some ⟨S.g, 0, none⟩)] 56 (0, 0))) w16 := (ST16.out.x (bx, Obj.cells #[.pointer (some ⟨S.g, 0, none⟩)] 56 (0, 0)) (by simp)).1
        refine ⟨fun _ => hS, ?_⟩
        refine wpTill_alone 8 (by kernel_rfl) ?_
        have FIN := Lib.hid (ST16.out.fin (k := 40) (m := 0) (f := n) hgl hgwl (ST16.out.ns (.slice (some ⟨g10, 0, none⟩) 1 1, [n]) (by simp)) (ST16.out.ks (.slice (some ⟨g14, 0, none⟩) 1 1, [y11]) (by simp)) EQ12.out)
        refine store_op 8 (oi := { dst := none, op := Op.store 26 (Operand.tmp 3) (Operand.tmp 30), type := 0, pos := "terms.go:129", after := #[{ on := 7, ground := Ground.data }, { on := 7, ground := Ground.chain }, { on := 0, ground := Ground.phase }, { on := 1, ground := Ground.phase }, { on := 2, ground := Ground.phase }, { on := 3, ground := Ground.phase }, { on := 4, ground := Ground.phase }, { on := 5, ground := Ground.phase }, { on := 6, ground := Ground.phase }, { on := 7, ground := Ground.phase }], guard := none }) (w' := ((((((w16.setCell ⟨w.heap.size, 0, none⟩ (.int .i64 40)).setCell ⟨w.heap.size, 1, none⟩ (.int .i64 0)).setCell ⟨w.heap.size, 2, none⟩ (.int .i64 (n : Int))).setCell ⟨w.heap.size, 3, none⟩ (.int .i64 (n11 : Int))).setCell ⟨w.heap.size, 4, none⟩ (.slice (some ⟨g10, 0, none⟩) 1 1)).setCell ⟨w.heap.size, 5, none⟩ (.slice (some ⟨g14, 0, none⟩) 1 1))) hF rfl rfl (fun a' hA => wanted_none rfl) (fun a' hA => ?_) ?_
        · have e1 := hA.get 3 rfl
          have e2 := hA.get 30 rfl
          have c0 := FIN.out.c0
          have c1 := FIN.out.c1
          have c2 := FIN.out.c2
          have c3 := FIN.out.c3
          have c4 := FIN.out.c4
          have c5 := FIN.out.c5
          have f0 := FIN.out.fz 0
          have f1 := FIN.out.fz 1
          have f2 := FIN.out.fz 2
          have f3 := FIN.out.fz 3
          have f4 := FIN.out.fz 4
          have f5 := FIN.out.fz 5
          clear hA hF
          generalize a'.eval = ρ at *
          simp [go_sem, e1, e2, c0, c1, c2, c3, c4, c5, f0, f1, f2, f3, f4, f5]
        refine ⟨fun h => absurd h (by decide), ?_⟩
        refine wpTill_done (by kernel_rfl) ?_ _
        subst ha0
        simp only [Act.put, List.setIfInBounds_toArray, List.set_cons_zero, List.set_cons_succ]
        clear hF hS ST16 EQ12
        go_wp2_with fail
        obtain ⟨_, _, _, _, _, _, _, d0, d1, d2, d3, d4, d5, hfin⟩ := FIN.out
        refine bodyPost_ret (by simp [results, Tryz.results68, go_sem, d0, d1, d2, d3, d4, d5, Result.andThen]; try rfl) rfl ?_
        exact hfin
      · have HT := Lib.hid (HS.out.pat ((n + 2)) _ STd.out.rd (bind_dry (by rw [← EQ4.out]; exact HD.out)))
        refine call_op 5 (oi := { dst := some 28, op := Op.call { callee := Callee.value (Operand.func 41), args := #[Operand.tmp 27], argTypes := #[56] }, type := 26, pos := "terms.go:129", after := #[{ on := 4, ground := Ground.data }], guard := none }) (d := 28) (R := fun e w' => Ends S d w9 (rec .pat d ((n + 2))) (RB w9) e w') hF rfl rfl (by decide) (fun a' hA => wanted_none rfl) (fun a' hA => by have e27 := hA.get 27 rfl; have ef : ∀ f, a'.eval (.func f) = .func (.func f) #[] #[] := fun _ => rfl; have ec : ∀ v, a'.eval (.const v) = v := fun _ => rfl; clear hA; generalize a'.eval = ρ at *; simp [go_sem, ef, ec, e27]) HT.out (fun w' => Ends.noOut) ?_ ?_
        · rintro ch w' (⟨_, _, _, _, h2, _⟩ | ⟨ch', ho, h2, hg⟩)
          · cases h2
          · have h2 := Ending.panicked.inj h2
            subst h2
            have hq : bodyPost Tryz.prog Tryz.f68 (fun e w' => Ends S d w tot (RB w) e w') (.panic ch) _ w' := ⟨hF.2.1, Or.inr ⟨ch, by rw [EQ4.out]; exact pan_bind ho, rfl, STd.out.pan hg⟩⟩
            exact hq
        rintro v w10 (⟨x10, n10, v10, hpo, h2, ⟨y10, hv, hyl, hyo, rfl⟩, hr, hg⟩ | ⟨_, _, h2, _⟩) hF2
        rotate_left
        · cases h2
        have h2 := Ending.returned.inj h2
        subst h2
        have e11 := EQ4.out
        rw [show _ = Out.ok _ _ from hpo, bind_ok] at e11
        have EQ11 := Lib.hid e11
        clear e11 EQ4 hS
        have hv2 : v = .agg #[.int .i64 y10.h.k, .int .i64 y10.h.m, .int .i64 y10.h.f, .int .i64 y10.h.t, .slice y10.h.np y10.h.nn y10.h.nc, .slice y10.h.kp y10.h.kn y10.h.kc] := hv
        subst hv2
        clear hv hF
        have hF := hF2
        clear hF2
        have HY10 := Lib.hid (And.intro hyl (hyo.mono (fun q hq => Nat.le_trans STd.out.size hq) _))
        have ST12 := Lib.hid (STd.out.grow hr hg)
        clear hr hg STd hyl hyo hpo HT
        have hS : (fun W : World => W.heap[bx]? = some (.cells #[.pointer (some ⟨S.g, 0, none⟩)] 56 (0, 0))) w10 := (ST12.out.x (bx, Obj.cells #[.pointer (some ⟨S.g, 0, none⟩)] 56 (0, 0)) (by simp)).1
        refine ⟨fun _ => hS, ?_⟩
        refine wpTill_two 3 6 (by kernel_rfl) (fun _ => ?_) (fun _ => ?_)
        · have hnew : St S _ d _ (w10.alloc (.cells #[.int .i64 (n : Int)] 3)) _ := ST12.out.newN [n] (by simp)
          have HY14 := Lib.hid (And.intro (HY10.out.1.step _ ((Below.refl w10.heap.size w10).alloc (Nat.le_refl _) (.cells #[.int .i64 (n : Int)] 3))) HY10.out.2)
          have STn := Lib.hid hnew
          clear hnew hS
          refine make_op 3 (oi := { dst := some 26, op := Op.buildSlice 23 1 #[(0, Operand.tmp 25)], type := 23, pos := "terms.go:129", after := #[{ on := 2, ground := Ground.data }], guard := none }) (d := 26) (v := .slice (some ⟨w10.heap.size, 0, none⟩) 1 1) (w' := w10.alloc (.cells #[.int .i64 (n : Int)] 3)) hF rfl rfl (by decide) (fun a' hA => wanted_none rfl) (fun a' hA => by have e25 := hA.get 25 rfl; have ec : ∀ v, a'.eval (.const v) = v := fun _ => rfl; clear hA; generalize a'.eval = ρ at *; simp [go_sem, ec, e25]; try rfl) ?_
          clear hF
          intro hF
          clear ST12
          generalize w10.alloc (.cells #[.int .i64 (n : Int)] 3) = w13 at *
          generalize hgz13 : w10.heap.size = g13 at *
          have ST13 := STn
          clear STn
          have hS : (fun W : World => W.heap[bx]? = some (.cells #[.pointer (some ⟨S.g, 0, none⟩)] 56 (0, 0))) w13 := (ST13.out.x (bx, Obj.cells #[.pointer (some ⟨S.g, 0, none⟩)] 56 (0, 0)) (by simp)).1
          refine ⟨fun _ => hS, ?_⟩
          refine wpTill_alone 6 (by kernel_rfl) ?_
          have hys : ∀ u ∈ [y10], u.Lies w13 ∧ u.On (fun q => (w.alloc boxZ).heap.size ≤ q) := (List.forall_mem_cons.2 ⟨HY14.out, (fun _ h => nomatch h)⟩)
          have hnew : St S _ d _ (w13.alloc (.cells #[.int .i64 y10.h.k, .int .i64 y10.h.m, .int .i64 y10.h.f, .int .i64 y10.h.t, .slice y10.h.np y10.h.nn y10.h.nc, .slice y10.h.kp y10.h.kn y10.h.kc] 26)) _ := ST13.out.newK [y10] (by simp) hys
          clear hys
          have HY16 := Lib.hid (And.intro (HY14.out.1.step _ ((Below.refl w13.heap.size w13).alloc (Nat.le_refl _) (.cells #[.int .i64 y10.h.k, .int .i64 y10.h.m, .int .i64 y10.h.f, .int .i64 y10.h.t, .slice y10.h.np y10.h.nn y10.h.nc, .slice y10.h.kp y10.h.kn y10.h.kc] 26))) HY14.out.2)
          have STn := Lib.hid hnew
          clear hnew hS
          refine make_op 6 (oi := { dst := some 29, op := Op.buildSlice 24 1 #[(0, Operand.tmp 28)], type := 24, pos := "terms.go:129", after := #[{ on := 5, ground := Ground.data }], guard := none }) (d := 29) (v := .slice (some ⟨w13.heap.size, 0, none⟩) 1 1) (w' := w13.alloc (.cells #[.int .i64 y10.h.k, .int .i64 y10.h.m, .int .i64 y10.h.f, .int .i64 y10.h.t, .slice y10.h.np y10.h.nn y10.h.nc, .slice y10.h.kp y10.h.kn y10.h.kc] 26)) hF rfl rfl (by decide) (fun a' hA => wanted_none rfl) (fun a' hA => by have e28 := hA.get 28 rfl; have ec : ∀ v, a'.eval (.const v) = v := fun _ => rfl; clear hA; generalize a'.eval = ρ at *; simp [go_sem, ec, e28]; try rfl) ?_
          clear hF
          intro hF
          clear ST13
          generalize w13.alloc (.cells #[.int .i64 y10.h.k, .int .i64 y10.h.m, .int .i64 y10.h.f, .int .i64 y10.h.t, .slice y10.h.np y10.h.nn y10.h.nc, .slice y10.h.kp y10.h.kn y10.h.kc] 26) = w15 at *
          generalize hgz15 : w13.heap.size = g15 at *
          have ST15 := STn
          clear STn
          have hS : (fun W : World => W.heap[bx]? = some (.cells #[.pointer (some ⟨S.g, 0, none⟩)] 56 (0, 0))) w15 := (ST15.out.x (bx, Obj.cells #[.pointer (some ⟨S.g, 0, none⟩)] 56 (0, 0)) (by simp)).1
          refine ⟨fun _ => hS, ?_⟩
          refine wpTill_alone 7 (by kernel_rfl) ?_
          have HT := Lib.hid (rbranch_any S (n10) d 40 (n : Nat) (some ⟨g13, 0, none⟩) 1 1 (some ⟨g15, 0, none⟩) 1 1 _ ST15.out.rd)
          refine call_op 7 (oi := { dst := some 30, op := Op.call { callee := Callee.value (Operand.func 38), args := #[Operand.tmp 23, Operand.const (Value.int IntKind.i64 40), Operand.tmp 24, Operand.tmp 26, Operand.tmp 29], argTypes := #[56, 3, 3, 23, 24] }, type := 26, pos := "terms.go:129", after := #[{ on := 0, ground := Ground.data }, { on := 1, ground := Ground.data }, { on := 3, ground := Ground.data }, { on := 6, ground := Ground.data }, { on := 5, ground := Ground.chain }], guard := none }) (d := 30) (R := fun e w' => e = .returned (.agg #[.int .i64 40, .int .i64 0, .int .i64 (n : Int), .int .i64 (n10 : Int), .slice (some ⟨g13, 0, none⟩) 1 1, .slice (some ⟨g15, 0, none⟩) 1 1]) ∧ Below w15.heap.size w15 w') hF rfl rfl (by decide) (fun a' hA => wanted_none rfl) (fun a' hA => by have e23 := hA.get 23 rfl; have e24 := hA.get 24 rfl; have e26 := hA.get 26 rfl; have e29 := hA.get 29 rfl; have ef : ∀ f, a'.eval (.func f) = .func (.func f) #[] #[] := fun _ => rfl; have ec : ∀ v, a'.eval (.const v) = v := fun _ => rfl; clear hA; generalize a'.eval = ρ at *; simp [go_sem, ef, ec, e23, e24, e26, e29]) HT.out (by rintro w' ⟨h, _⟩; cases h) ?_ ?_
          · rintro ch w' ⟨h, _⟩
            cases h
          rintro v w17 ⟨h, hb⟩
          have h := Ending.returned.inj h
          subst h
          intro hF2
          clear hF hS
          have hF := hF2
          clear hF2
          have ST17 := Lib.hid (ST15.out.below hb)
          clear hb ST15 HT
          have hS : (fun W : World => W.heap[bx]? = some (.cells #[.pointer (some ⟨S.g, 0, none⟩)] 56 (0, 0))) w17 := (ST17.out.x (bx, Obj.cells #[.pointer (some ⟨S.g, 0, none⟩)] 56 (0, 0)) (by simp)).1
          refine ⟨fun _ => hS, ?_⟩
          refine wpTill_alone 8 (by kernel_rfl) ?_
          have FIN := Lib.hid (ST17.out.fin (k := 40) (m := 0) (f := n) hgl hgwl (ST17.out.ns (.slice (some ⟨g13, 0, none⟩) 1 1, [n]) (by simp)) (ST17.out.ks (.slice (some ⟨g15, 0, none⟩) 1 1, [y10]) (by simp)) EQ11.out)
          refine store_op 8 (oi := { dst := none, op := Op.store 26 (Operand.tmp 3) (Operand.tmp 30), type := 0, pos := "terms.go:129", after := #[{ on := 7, ground := Ground.data }, { on := 7, ground := Ground.chain }, { on := 0, ground := Ground.phase }, { on := 1, ground := Ground.phase }, { on := 2, ground := Ground.phase }, { on := 3, ground := Ground.phase }, { on := 4, ground := Ground.phase }, { on := 5, ground := Ground.phase }, { on := 6, ground := Ground.phase }, { on := 7, ground := Ground.phase }], guard := none }) (w' := ((((((w17.setCell ⟨w.heap.size, 0, none⟩ (.int .i64 40)).setCell ⟨w.heap.size, 1, none⟩ (.int .i64 0)).setCell ⟨w.heap.size, 2, none⟩ (.int .i64 (n : Int))).setCell ⟨w.heap.size, 3, none⟩ (.int .i64 (n10 : Int))).setCell ⟨w.heap.size, 4, none⟩ (.slice (some ⟨g13, 0, none⟩) 1 1)).setCell ⟨w.heap.size, 5, none⟩ (.slice (some ⟨g15, 0, none⟩) 1 1))) hF rfl rfl (fun a' hA => wanted_none rfl) (fun a' hA => ?_) ?_
          · have e1 := hA.get 3 rfl
            have e2 := hA.get 30 rfl
            have c0 := FIN.out.c0
            have c1 := FIN.out.c1
            have c2 := FIN.out.c2
            have c3 := FIN.out.c3
            have c4 := FIN.out.c4
            have c5 := FIN.out.c5
            have f0 := FIN.out.fz 0
            have f1 := FIN.out.fz 1
            have f2 := FIN.out.fz 2
            have f3 := FIN.out.fz 3
            have f4 := FIN.out.fz 4
            have f5 := FIN.out.fz 5
            clear hA hF
            generalize a'.eval = ρ at *
            simp [go_sem, e1, e2, c0, c1, c2, c3, c4, c5, f0, f1, f2, f3, f4, f5]
          refine ⟨fun h => absurd h (by decide), ?_⟩
          refine wpTill_done (by kernel_rfl) ?_ _
          subst ha0
          simp only [Act.put, List.setIfInBounds_toArray, List.set_cons_zero, List.set_cons_succ]
          clear hF hS ST17 EQ11
          go_wp2_with fail
          obtain ⟨_, _, _, _, _, _, _, d0, d1, d2, d3, d4, d5, hfin⟩ := FIN.out
          refine bodyPost_ret (by simp [results, Tryz.results68, go_sem, d0, d1, d2, d3, d4, d5, Result.andThen]; try rfl) rfl ?_
          exact hfin
        · have hys : ∀ u ∈ [y10], u.Lies w10 ∧ u.On (fun q => (w.alloc boxZ).heap.size ≤ q) := (List.forall_mem_cons.2 ⟨HY10.out, (fun _ h => nomatch h)⟩)
          have hnew : St S _ d _ (w10.alloc (.cells #[.int .i64 y10.h.k, .int .i64 y10.h.m, .int .i64 y10.h.f, .int .i64 y10.h.t, .slice y10.h.np y10.h.nn y10.h.nc, .slice y10.h.kp y10.h.kn y10.h.kc] 26)) _ := ST12.out.newK [y10] (by simp) hys
          clear hys
          have HY14 := Lib.hid (And.intro (HY10.out.1.step _ ((Below.refl w10.heap.size w10).alloc (Nat.le_refl _) (.cells #[.int .i64 y10.h.k, .int .i64 y10.h.m, .int .i64 y10.h.f, .int .i64 y10.h.t, .slice y10.h.np y10.h.nn y10.h.nc, .slice y10.h.kp y10.h.kn y10.h.kc] 26))) HY10.out.2)
          have STn := Lib.hid hnew
          clear hnew hS
          refine make_op 6 (oi := { dst := some 29, op := Op.buildSlice 24 1 #[(0, Operand.tmp 28)], type := 24, pos := "terms.go:129", after := #[{ on := 5, ground := Ground.data }], guard := none }) (d := 29) (v := .slice (some ⟨w10.heap.size, 0, none⟩) 1 1) (w' := w10.alloc (.cells #[.int .i64 y10.h.k, .int .i64 y10.h.m, .int .i64 y10.h.f, .int .i64 y10.h.t, .slice y10.h.np y10.h.nn y10.h.nc, .slice y10.h.kp y10.h.kn y10.h.kc] 26)) hF rfl rfl (by decide) (fun a' hA => wanted_none rfl) (fun a' hA => by have e28 := hA.get 28 rfl; have ec : ∀ v, a'.eval (.const v) = v := fun _ => rfl; clear hA; generalize a'.eval = ρ at *; simp [go_sem, ec, e28]; try rfl) ?_
          clear hF
          intro hF
          clear ST12
          generalize w10.alloc (.cells #[.int .i64 y10.h.k, .int .i64 y10.h.m, .int .i64 y10.h.f, .int .i64 y10.h.t, .slice y10.h.np y10.h.nn y10.h.nc, .slice y10.h.kp y10.h.kn y10.h.kc] 26) = w13 at *
          generalize hgz13 : w10.heap.size = g13 at *
          have ST13 := STn
          clear STn
          have hS : (fun W : World => W.heap[bx]? = some (.cells #[.pointer (some ⟨S.g, 0, none⟩)] 56 (0, 0))) w13 := (ST13.out.x (bx, Obj.cells #[.pointer (some ⟨S.g, 0, none⟩)] 56 (0, 0)) (by simp)).1
          refine ⟨fun _ => hS, ?_⟩
          refine wpTill_alone 3 (by kernel_rfl) ?_
          have hnew : St S _ d _ (w13.alloc (.cells #[.int .i64 (n : Int)] 3)) _ := ST13.out.newN [n] (by simp)
          have HY16 := Lib.hid (And.intro (HY14.out.1.step _ ((Below.refl w13.heap.size w13).alloc (Nat.le_refl _) (.cells #[.int .i64 (n : Int)] 3))) HY14.out.2)
          have STn := Lib.hid hnew
          clear hnew hS
          refine make_op 3 (oi := { dst := some 26, op := Op.buildSlice 23 1 #[(0, Operand.tmp 25)], type := 23, pos := "terms.go:129", after := #[{ on := 2, ground := Ground.data }], guard := none }) (d := 26) (v := .slice (some ⟨w13.heap.size, 0, none⟩) 1 1) (w' := w13.alloc (.cells #[.int .i64 (n : Int)] 3)) hF rfl rfl (by decide) (fun a' hA => wanted_none rfl) (fun a' hA => by have e25 := hA.get 25 rfl; have ec : ∀ v, a'.eval (.const v) = v := fun _ => rfl; clear hA; generalize a'.eval = ρ at *; simp [go_sem, ec, e25]; try rfl) ?_
          clear hF
          intro hF
          clear ST13
          generalize w13.alloc (.cells #[.int .i64 (n : Int)] 3) = w15 at *
          generalize hgz15 : w13.heap.size = g15 at *
          have ST15 := STn
          clear STn
          have hS : (fun W : World => W.heap[bx]? = some (.cells #[.pointer (some ⟨S.g, 0, none⟩)] 56 (0, 0))) w15 := (ST15.out.x (bx, Obj.cells #[.pointer (some ⟨S.g, 0, none⟩)] 56 (0, 0)) (by simp)).1
          refine ⟨fun _ => hS, ?_⟩
          refine wpTill_alone 7 (by kernel_rfl) ?_
          have HT := Lib.hid (rbranch_any S (n10) d 40 (n : Nat) (some ⟨g15, 0, none⟩) 1 1 (some ⟨g13, 0, none⟩) 1 1 _ ST15.out.rd)
          refine call_op 7 (oi := { dst := some 30, op := Op.call { callee := Callee.value (Operand.func 38), args := #[Operand.tmp 23, Operand.const (Value.int IntKind.i64 40), Operand.tmp 24, Operand.tmp 26, Operand.tmp 29], argTypes := #[56, 3, 3, 23, 24] }, type := 26, pos := "terms.go:129", after := #[{ on := 0, ground := Ground.data }, { on := 1, ground := Ground.data }, { on := 3, ground := Ground.data }, { on := 6, ground := Ground.data }, { on := 5, ground := Ground.chain }], guard := none }) (d := 30) (R := fun e w' => e = .returned (.agg #[.int .i64 40, .int .i64 0, .int .i64 (n : Int), .int .i64 (n10 : Int), .slice (some ⟨g15, 0, none⟩) 1 1, .slice (some ⟨g13, 0, none⟩) 1 1]) ∧ Below w15.heap.size w15 w') hF rfl rfl (by decide) (fun a' hA => wanted_none rfl) (fun a' hA => by have e23 := hA.get 23 rfl; have e24 := hA.get 24 rfl; have e26 := hA.get 26 rfl; have e29 := hA.get 29 rfl; have ef : ∀ f, a'.eval (.func f) = .func (.func f) #[] #[] := fun _ => rfl; have ec : ∀ v, a'.eval (.const v) = v := fun _ => rfl; clear hA; generalize a'.eval = ρ at *; simp [go_sem, ef, ec, e23, e24, e26, e29]) HT.out (by rintro w' ⟨h, _⟩; cases h) ?_ ?_
          · rintro ch w' ⟨h, _⟩
            cases h
          rintro v w17 ⟨h, hb⟩
          have h := Ending.returned.inj h
          subst h
          intro hF2
          clear hF hS
          have hF := hF2
          clear hF2
          have ST17 := Lib.hid (ST15.out.below hb)
          clear hb ST15 HT
          have hS : (fun W : World => W.heap[bx]? = some (.cells #[.pointer (some ⟨S.g, 0, none⟩)] 56 (0, 0))) w17 := (ST17.out.x (bx, Obj.cells #[.pointer (some ⟨S.g, 0, none⟩)] 56 (0, 0)) (by simp)).1
          refine ⟨fun _ => hS, ?_⟩
          refine wpTill_alone 8 (by kernel_rfl) ?_
          have FIN := Lib.hid (ST17.out.fin (k := 40) (m := 0) (f := n) hgl hgwl (ST17.out.ns (.slice (some ⟨g15, 0, none⟩) 1 1, [n]) (by simp)) (ST17.out.ks (.slice (some ⟨g13, 0, none⟩) 1 1, [y10]) (by simp)) EQ11.out)
          refine store_op 8 (oi := { dst := none, op := Op.store 26 (Operand.tmp 3) (Operand.tmp 30), type := 0, pos := "terms.go:129", after := #[{ on := 7, ground := Ground.data }, { on := 7, ground := Ground.chain }, { on := 0, ground := Ground.phase }, { on := 1, ground := Ground.phase }, { on := 2, ground := Ground.phase }, { on := 3, ground := Ground.phase }, { on := 4, ground := Ground.phase }, { on := 5, ground := Ground.phase }, { on := 6, ground := Ground.phase }, { on := 7, ground := Ground.phase }], guard := none }) (w' := ((((((w17.setCell ⟨w.heap.size, 0, none⟩ (.int .i64 40)).setCell ⟨w.heap.size, 1, none⟩ (.int .i64 0)).setCell ⟨w.heap.size, 2, none⟩ (.int .i64 (n : Int))).setCell ⟨w.heap.size, 3, none⟩ (.int .i64 (n10 : Int))).setCell ⟨w.heap.size, 4, none⟩ (.slice (some ⟨g15, 0, none⟩) 1 1)).setCell ⟨w.heap.size, 5, none⟩ (.slice (some ⟨g13, 0, none⟩) 1 1))) hF rfl rfl (fun a' hA => wanted_none rfl) (fun a' hA => ?_) ?_
          · have e1 := hA.get 3 rfl
            have e2 := hA.get 30 rfl
            have c0 := FIN.out.c0
            have c1 := FIN.out.c1
            have c2 := FIN.out.c2
            have c3 := FIN.out.c3
            have c4 := FIN.out.c4
            have c5 := FIN.out.c5
            have f0 := FIN.out.fz 0
            have f1 := FIN.out.fz 1
            have f2 := FIN.out.fz 2
            have f3 := FIN.out.fz 3
            have f4 := FIN.out.fz 4
            have f5 := FIN.out.fz 5
            clear hA hF
            generalize a'.eval = ρ at *
            simp [go_sem, e1, e2, c0, c1, c2, c3, c4, c5, f0, f1, f2, f3, f4, f5]
          refine ⟨fun h => absurd h (by decide), ?_⟩
          refine wpTill_done (by kernel_rfl) ?_ _
          subst ha0
          simp only [Act.put, List.setIfInBounds_toArray, List.set_cons_zero, List.set_cons_succ]
          clear hF hS ST17 EQ11
          go_wp2_with fail
          obtain ⟨_, _, _, _, _, _, _, d0, d1, d2, d3, d4, d5, hfin⟩ := FIN.out
          refine bodyPost_ret (by simp [results, Tryz.results68, go_sem, d0, d1, d2, d3, d4, d5, Result.andThen]; try rfl) rfl ?_
          exact hfin
end Go.Proofs.YtkjgkchdkeggoaaGreatDoor
