/-
  The reader's applied.
-/
import Derived.Test.YtkjgkchdkeggoaaGreatDoorProd
namespace Go.Proofs.YtkjgkchdkeggoaaGreatDoor
open Go.RowKit
set_option maxRecDepth 20000
set_option linter.unusedVariables false
set_option linter.unusedSimpArgs false

section
variable {P : Program} {ops : Array Oper} {Q : Exit → Act → World → Prop} {S : World → Prop} {st : Nat}
/-- Two numbers may come up. -/
theorem wpTill_two (i j : Nat) {fuel : Nat} {listed : Array Bool} {a : Act} {w : World} (hr : Region.ready .any ops listed = [i, j])
    (h1 : Region.ready .any ops listed = [i, j] → wpOp P ops Q i (fun a' w' => ((listed.setIfInBounds i true).getD st true = false → S w') ∧ wpTill P ops Q S st fuel (listed.setIfInBounds i true) a' w') a w)
    (h2 : Region.ready .any ops listed = [i, j] → wpOp P ops Q j (fun a' w' => ((listed.setIfInBounds j true).getD st true = false → S w') ∧ wpTill P ops Q S st fuel (listed.setIfInBounds j true) a' w') a w) :
    wpTill P ops Q S st (fuel + 1) listed a w := by
  refine ⟨fun h0 => (by rw [hr] at h0; cases h0), fun q hq => ?_⟩
  rw [hr] at hq
  rcases List.mem_cons.1 hq with rfl | hq
  · exact h1 hr
  · obtain rfl := List.mem_singleton.1 hq
    exact h2 hr
/-- A call, whether or not others may come up. -/
theorem call_op (i : Nat) {oi : Oper} {d : Nat} {f : FuncId} {args : Array Value} {N : Nat} {L : List (Nat × Value)} {R : Ending → World → Prop} {K : Act → World → Prop} {a : Act} {w : World} (hF : Fs a N L) (hi : ops[i]? = some oi) (hd : oi.dst = some d) (hdN : d < N)
    (hw : ∀ a', Fs a' N L → Region.wanted oi (yielded ops a'.tmps) = true)
    (hrun : ∀ a', Fs a' N L → (execOp a'.eval oi).run P w = .ok (.enter f args) w)
    (hc : Calls P f args w R) (hout : ∀ w', ¬ R .outgrown w')
    (hpan : ∀ ch w', R (.panicked ch) w' → Q (.panic ch) a w')
    (hret : ∀ v w', R (.returned v) w' → (Fs (a.put (some d) v) N ((d, v) :: L) → K (a.put (some d) v) w')) : wpOp P ops Q i K a w := by
  refine wpOp_step hi (fun K' hK => ?_)
  rw [if_pos (hw a hF)]
  unfold Oper.wp
  rw [hrun a hF, Oper.upon_enter]
  refine hc.mono ?_
  intro e w' h
  cases e with
  | returned v =>
    refine hK _ _ ?_
    rw [hd]
    exact hret v w' h (hF.put hdN v)
  | panicked ch => exact hpan ch w' h
  | outgrown => exact absurd h (hout w')
/-- An operation that makes memory, whether or not others may come up. -/
theorem make_op (i : Nat) {oi : Oper} {d : Nat} {v : Value} {N : Nat} {L : List (Nat × Value)} {K : Act → World → Prop} {a : Act} {w w' : World} (hF : Fs a N L) (hi : ops[i]? = some oi) (hd : oi.dst = some d) (hdN : d < N)
    (hw : ∀ a', Fs a' N L → Region.wanted oi (yielded ops a'.tmps) = true)
    (hrun : ∀ a', Fs a' N L → (execOp a'.eval oi).run P w = .ok (.value v) w')
    (h : Fs (a.put (some d) v) N ((d, v) :: L) → K (a.put (some d) v) w') : wpOp P ops Q i K a w := by
  refine wpOp_step hi (fun K' hK => ?_)
  rw [if_pos (hw a hF)]
  unfold Oper.wp
  rw [hrun a hF, Oper.upon_value]
  refine hK _ _ ?_
  rw [hd]
  exact h (hF.put hdN v)
/-- A store. -/
theorem store_op (i : Nat) {oi : Oper} {N : Nat} {L : List (Nat × Value)} {K : Act → World → Prop} {a : Act} {w w' : World} (hF : Fs a N L) (hi : ops[i]? = some oi) (hd : oi.dst = none)
    (hw : ∀ a', Fs a' N L → Region.wanted oi (yielded ops a'.tmps) = true)
    (hrun : ∀ a', Fs a' N L → (execOp a'.eval oi).run P w = .ok .skip w')
    (h : K a w') : wpOp P ops Q i K a w := by
  refine wpOp_step hi (fun K' hK => ?_)
  rw [if_pos (hw a hF)]
  unfold Oper.wp
  rw [hrun a hF, Oper.upon_skip]
  refine hK _ _ ?_
  rw [hd]
  exact h
theorem wpTill_alone (i : Nat) {fuel : Nat} {listed : Array Bool} {a : Act} {w : World} (hr : Region.ready .any ops listed = [i])
    (h1 : wpOp P ops Q i (fun a' w' => ((listed.setIfInBounds i true).getD st true = false → S w') ∧ wpTill P ops Q S st fuel (listed.setIfInBounds i true) a' w') a w) : wpTill P ops Q S st (fuel + 1) listed a w := by
  refine ⟨fun h0 => (by rw [hr] at h0; cases h0), fun q hq => ?_⟩
  rw [hr] at hq
  obtain rfl := List.mem_singleton.1 hq
  exact h1
end

set_option maxHeartbeats 8000000 in
theorem applied_any (S : Src) (F : Nat) (rec : Nt → Nat → Nat → Out Pb) (d : Nat) (hs : Said S rec d) (hF0 : F ≤ 1000000000) (n : Nat) (w : World) (h : Rd w S n d) (hdry : appliedO S F rec d n ≠ .dry) :
    Calls Tryz.prog 76 #[.pointer (some ⟨S.g, 0, none⟩)] w fun e w' => Ends S d w (appliedO S F rec d n) (RB w) e w' := by
  have hgl := h.lt
  have hgwl := h.row
  have hb1 : Below w.heap.size w (w.alloc boxZ) := (Below.refl w.heap.size w).alloc (Nat.le_refl _) _
  have hr1 := h.step hb1
  have q2 := hr1.c2
  have hgz : w.heap.size ≤ (w.alloc boxZ).heap.size := by simp
  unfold appliedO at hdry ⊢
  have HT := Lib.hid (atomicTy_any S F rec d hs hF0 n _ hr1 (bind_dry hdry))
  have HDRY := Lib.hid hdry
  obtain ⟨tot, htot⟩ : ∃ tot, tot = (atomicTyO S F rec d n).bind fun b n1 => appliedL S n F b n1 := ⟨_, rfl⟩
  rw [← htot] at HDRY ⊢
  have HTOT := Lib.hid htot
  clear hr1 hb1 h hs hdry htot
  go_enter Tryz.func76, Tryz.ntmps76
  go_wp2_with fail
  refine HT.out.mono ?_
  rintro e w2 (⟨b, i2, v, hpo, rfl, ⟨y, rfl, hyl, hyo, hyp⟩, hr2, hg2⟩ | ⟨ch, ho, rfl, hg2⟩)
  · obtain ⟨⟨yk, ym, yf, yt, ynp, ynn, ync, yns, ykp, ykn, ykc⟩, yks⟩ := y
    have hz2 : w.heap.size + 1 ≤ w2.heap.size := by have := hg2.size; simpa using this
    have HL0 : Hid (tot = appliedL S n F (Br.pb (.mk ⟨yk, ym, yf, yt, ynp, ynn, ync, yns, ykp, ykn, ykc⟩ yks)) i2) := Lib.hid (by rw [HTOT.out, hpo, bind_ok, hyp])
    have hB3 : Below w2.heap.size w2 (w2.alloc (.cells #[.int .i64 yk, .int .i64 ym, .int .i64 yf, .int .i64 yt, .slice ynp ynn ync, .slice ykp ykn ykc] 26)) := (Below.refl _ _).alloc (Nat.le_refl _) _
    have HBX0 := Lib.hid (heap_alloc_new w2 (.cells #[.int .i64 yk, .int .i64 ym, .int .i64 yf, .int .i64 yt, .slice ynp ynn ync, .slice ykp ykn ykc] 26))
    have HYL0 := Lib.hid (hyl.step _ hB3)
    have HYO0 := Lib.hid ((Br.On.low _ hyo hyl).mono (Q := fun q => w.heap.size + 1 ≤ q ∧ q ≠ w2.heap.size) (fun q hq => ⟨by have := hq.1; simpa using this, by have := hq.2; omega⟩) _)
    have HR0 := Lib.hid (hr2.step hB3)
    have HG0 := Lib.hid (grown_trans hg2 (grown_below hB3 _))
    have HBS0 : Hid (w2.heap.size < (w2.alloc (.cells #[.int .i64 yk, .int .i64 ym, .int .i64 yf, .int .i64 yt, .slice ynp ynn ync, .slice ykp ykn ykc] 26)).heap.size) := Lib.hid (by simp)
    clear hpo hyl hyo hyp hr2 hg2 hB3
    simp only [Hd.val, Br.h] at *
    go_wp2_with fail
    generalize hb4 : w2.heap.size = b4 at *
    have HB4 := Lib.hid hb4
    clear hb4
    generalize w2.alloc (.cells #[.int .i64 yk, .int .i64 ym, .int .i64 yf, .int .i64 yt, .slice ynp ynn ync, .slice ykp ykn ykc] 26) = w3 at *
    go_loopg [] F (fun gk wr => ∃ (y : Br) (i : Nat), Hid (tot = appliedL S n gk y.pb i) ∧ Hid (wr.heap[b4]? = some (.cells #[.int .i64 y.h.k, .int .i64 y.h.m, .int .i64 y.h.f, .int .i64 y.h.t, .slice y.h.np y.h.nn y.h.nc, .slice y.h.kp y.h.kn y.h.kc] 26 (0, 0))) ∧ Hid (y.Lies wr) ∧ Hid (y.On fun q => w.heap.size + 1 ≤ q ∧ q ≠ b4) ∧ Hid (Rd wr S i d) ∧ Hid (b4 < wr.heap.size) ∧ (w.alloc boxZ).grownBy wr (some S.g))
    case atStart => exact ⟨_, i2, HL0, HBX0, HYL0, HYO0, HR0, HBS0, HG0.out⟩
    case round =>
      obtain ⟨y, i, HL, HBX, HYL, HYO, HR, HBS, hgr⟩ := hrel
      obtain ⟨⟨yk, ym, yf, yt, ynp, ynn, ync, yns, ykp, ykn, ykc⟩, yks⟩ := y
      simp only [Br.h] at HBX
      have HGR := Lib.hid hgr
      have hzr : w.heap.size + 1 ≤ wr.heap.size := by have := hgr.size; simpa using this
      have hb4g : S.g ≠ b4 := by have := HB4.out; omega
      have hb4g : b4 ≠ S.g := fun e => hb4g e.symm
      have hgg : S.g < w.heap.size := hgl
      clear hgr
      cases gk with
      | zero => exact absurd HL.out (by intro e; exact HDRY.out e)
      | succ gk =>
      have hLs := HL.out
      simp only [appliedL] at hLs
      have HLS := Lib.hid hLs
      clear hLs HL
      have HK := Lib.hid (fun W (hW : Below wr.heap.size wr W) => rkind_any S i d W (HR.out.step hW))
      cases h7 : (S.kd i == 7)
      · cases h6 : (S.kd i == 6)
        · have HEQ : Hid (tot = .ok (Br.pb (Br.mk ⟨yk, ym, yf, yt, ynp, ynn, ync, yns, ykp, ykn, ykc⟩ yks)) i) := Lib.hid (by rw [HLS.out, h7, h6]; rfl)
          clear HLS
          generalize S.kd i = kdi at *
          go_wp2_with fail
          refine (HK.out _ (Below.refl _ _)).mono ?_
          rintro e w4 ⟨rfl, hb4x⟩
          have HB4x := Lib.hid hb4x
          clear hb4x
          go_wp2_with fail
          refine (HK.out _ HB4x.out).mono ?_
          rintro e w5 ⟨rfl, hb5x⟩
          have hb5 := HB4x.out.trans (hb5x.mono HB4x.out.size)
          have hB5 := (hb5.block b4 HBS.out).trans HBX.out
          have qq := Lib.cell_of_heap hB5
          have q0 := qq 0
          have q1 := qq 1
          have q2 := qq 2
          have q3 := qq 3
          have q4 := qq 4
          have q5 := qq 5
          simp only [List.getElem?_toArray, List.getElem?_cons_zero, List.getElem?_cons_succ] at q0 q1 q2 q3 q4 q5
          have FIN := Lib.hid (fin_box (o := tot) _ yk ym yf yt ynp ynn ync yns ykp ykn ykc yks (HR.out.step hb5) (grown_trans HGR.out (grown_below hb5 _)) hgl hgwl HEQ.out (HYL.out.step _ hb5) (HYO.out.mono (fun q hq => hq.1) _) rfl)
          clear hb5x hb5 hB5 qq
          have c0 := FIN.out.c0
          have c1 := FIN.out.c1
          have c2 := FIN.out.c2
          have c3 := FIN.out.c3
          have c4 := FIN.out.c4
          have c5 := FIN.out.c5
          have f0 := FIN.out.fz 0
          have f1 := FIN.out.fz 1
          have f2 := FIN.out.fz 2
          have f3 := FIN.out.fz 3
          have f4 := FIN.out.fz 4
          have f5 := FIN.out.fz 5
          go_wp2_with fail
          obtain ⟨_, _, _, _, _, _, _, d0, d1, d2, d3, d4, d5, hfin⟩ := FIN.out
          refine bodyPost_ret (by simp [results, Tryz.results76, go_sem, d0, d1, d2, d3, d4, d5, Result.andThen]; try rfl) rfl ?_
          exact hfin
        · have HEQ : Hid (tot = (S.typePath i).bind fun p m1 => appliedL S n gk (node 42 n m1 p [Br.pb (Br.mk ⟨yk, ym, yf, yt, ynp, ynn, ync, yns, ykp, ykn, ykc⟩ yks)]) m1) := Lib.hid (by rw [HLS.out, h7, h6]; rfl)
          clear HLS
          have h7' := h7
          have h6' := h6
          generalize S.kd i = kdi at *
          go_wp2_with fail
          refine (HK.out _ (Below.refl _ _)).mono ?_
          rintro e w4 ⟨rfl, hb4x⟩
          have HB4x := Lib.hid hb4x
          clear hb4x
          go_wp2_with fail
          refine (HK.out _ HB4x.out).mono ?_
          rintro e w5 ⟨rfl, hb5x⟩
          have hb5 := HB4x.out.trans (hb5x.mono HB4x.out.size)
          have HBX2 := Lib.hid ((hb5.block b4 HBS.out).trans HBX.out)
          have HYL2 := Lib.hid (HYL.out.step _ hb5)
          have HR2 := Lib.hid (HR.out.step hb5)
          have HBS2 : Hid (b4 < w5.heap.size) := Lib.hid (Nat.lt_of_lt_of_le HBS.out hb5.size)
          have HGR2 := Lib.hid (grown_trans HGR.out (grown_below hb5 _))
          have hzr2 : w.heap.size + 1 ≤ w5.heap.size := Nat.le_trans hzr hb5.size
          clear hb5x hb5 HK HB4x HBX HYL HR HBS HGR hzr
          go_wp2_with fail
          obtain ⟨wr, hwr⟩ : ∃ wr, wr = w5 := ⟨_, rfl⟩
          subst hwr
          have HBX := HBX2
          have HYL := HYL2
          have HR := HR2
          have HBS := HBS2
          have HGR := HGR2
          have hzr := hzr2
          clear HBX2 HYL2 HR2 HBS2 HGR2 hzr2 h7 h6 h7' h6'
          refine wp_region_till (fun W : World => W.heap[b4]? = some (.cells #[.int .i64 yk, .int .i64 ym, .int .i64 yf, .int .i64 yt, .slice ynp ynn ync, .slice ykp ykn ykc] 26 (0, 0))) 6 (by kernel_rfl) ?_
          have hS : (fun W : World => W.heap[b4]? = some (.cells #[.int .i64 yk, .int .i64 ym, .int .i64 yf, .int .i64 yt, .slice ynp ynn ync, .slice ykp ykn ykc] 26 (0, 0))) wr.drew := HBX.out
          refine start_fp (N := 27) [(0, .pointer (some ⟨S.g, 0, none⟩)), (3, .int .i64 (n : Int)), (4, .pointer (some ⟨b4, 0, none⟩))] (Fs.of rfl rfl (by simp [Act.eval])) ?_
          intro a0 ha0 hF
          refine take_fp 0 [6, 7] (oi := { dst := some 19, op := Op.move (Operand.tmp 0), type := 56, pos := "terms.go:179", after := #[], guard := none }) (d := 19) (v := .pointer (some ⟨S.g, 0, none⟩)) hF hS rfl rfl (by decide) (by kernel_rfl) (by kernel_rfl) (by kernel_rfl) (by kernel_rfl) (fun _ _ _ h => h) (fun a' hA => wanted_none rfl) (run_move_fs rfl rfl) ?_
          clear hF
          intro hF
          refine take_fp 1 [6, 7] (oi := { dst := some 20, op := Op.move (Operand.tmp 3), type := 3, pos := "terms.go:179", after := #[], guard := none }) (d := 20) (v := .int .i64 (n : Int)) hF hS rfl rfl (by decide) (by kernel_rfl) (by kernel_rfl) (by kernel_rfl) (by kernel_rfl) (fun _ _ _ h => h) (fun a' hA => wanted_none rfl) (run_move_fs rfl rfl) ?_
          clear hF
          intro hF
          refine take_fp 2 [3, 6, 7] (oi := { dst := some 21, op := Op.move (Operand.tmp 0), type := 56, pos := "terms.go:179", after := #[], guard := none }) (d := 21) (v := .pointer (some ⟨S.g, 0, none⟩)) hF hS rfl rfl (by decide) (by kernel_rfl) (by kernel_rfl) (by kernel_rfl) (by kernel_rfl) (fun _ _ _ h => h) (fun a' hA => wanted_none rfl) (run_move_fs rfl rfl) ?_
          clear hF
          intro hF
          refine take_fp 4 [5, 6, 7] (oi := { dst := some 23, op := Op.load 26 (Operand.tmp 4), type := 26, pos := "terms.go:179", after := #[], guard := none }) (d := 23) (v := .agg #[.int .i64 yk, .int .i64 ym, .int .i64 yf, .int .i64 yt, .slice ynp ynn ync, .slice ykp ykn ykc]) hF hS rfl rfl (by decide) (by kernel_rfl) (by kernel_rfl) (by kernel_rfl) (by kernel_rfl) (fun _ _ _ h => h) (fun a' hA => wanted_none rfl) (fun a' hA w' hw => by have e4 := hA.get 4 rfl; have ec : ∀ v, a'.eval (.const v) = v := fun _ => rfl; have qq := Lib.cell_of_heap hw; have q0 := qq 0; have q1 := qq 1; have q2 := qq 2; have q3 := qq 3; have q4 := qq 4; have q5 := qq 5; simp only [List.getElem?_toArray, List.getElem?_cons_zero, List.getElem?_cons_succ] at q0 q1 q2 q3 q4 q5; clear qq; clear hA; generalize a'.eval = ρ at *; simp [go_sem, ec, e4, q0, q1, q2, q3, q4, q5]; try rfl) ?_
          clear hF
          intro hF
          refine wpTill_two 3 5 (by kernel_rfl) (fun _ => ?_) (fun _ => ?_)
          · refine call_op 3 (oi := { dst := some 22, op := Op.call { callee := Callee.value (Operand.func 75), args := #[Operand.tmp 21], argTypes := #[56] }, type := 23, pos := "terms.go:179", after := #[{ on := 2, ground := Ground.data }], guard := none }) (d := 22) (R := fun e w' => Ends S d wr.drew (S.typePath i) (RL wr.drew) e w') hF rfl rfl (by decide) (fun a' hA => wanted_none rfl) (fun a' hA => by have e21 := hA.get 21 rfl; have ef : ∀ f, a'.eval (.func f) = .func (.func f) #[] #[] := fun _ => rfl; have ec : ∀ v, a'.eval (.const v) = v := fun _ => rfl; clear hA; generalize a'.eval = ρ at *; simp [go_sem, ef, ec, e21]) (rtypePath_any S i d wr.drew (HR.out.step (Below.refl wr.heap.size wr).drew) (bind_dry (by rw [← HEQ.out]; exact HDRY.out))) (fun w' => Ends.noOut) ?_ ?_
            · rintro ch w' (⟨_, _, _, _, h2, _⟩ | ⟨ch', ho, h2, hg⟩)
              · cases h2
              · have h2 := Ending.panicked.inj h2
                subst h2
                have hq : bodyPost Tryz.prog Tryz.f76 (fun e w' => Ends S d w tot (RB w) e w') (.panic ch) _ w' := ⟨hF.2.1, Or.inr ⟨ch, by rw [HEQ.out]; exact pan_bind ho, rfl, grown_trans (grown_below ((Below.refl _ _).alloc (Nat.le_refl _) _) _) (grown_trans (grown_trans HGR.out (grown_below (Below.refl wr.heap.size wr).drew _)) hg)⟩⟩
                exact hq
            rintro v w5 (⟨p, n1, v', hpo, h2, hv, hr5, hg5⟩ | ⟨_, _, h2, _⟩) hF2
            rotate_left
            · cases h2
            have h2 := Ending.returned.inj h2
            subst h2
            obtain ⟨np, nn, nc, rfl⟩ := hv.form
            have hF := hF2
            clear hF2
            have hs5 : wr.heap.size ≤ w5.heap.size := hg5.size
            have hB5 : w5.heap[b4]? = some (.cells #[.int .i64 yk, .int .i64 ym, .int .i64 yf, .int .i64 yt, .slice ynp ynn ync, .slice ykp ykn ykc] 26 (0, 0)) := (hg5.block b4 HBS.out (fun e => hb4g (Option.some.inj e))).trans HBX.out
            refine ⟨fun _ => hB5, ?_⟩
            refine wpTill_alone 5 (by kernel_rfl) (make_op 5 (oi := { dst := some 24, op := Op.buildSlice 24 1 #[(0, Operand.tmp 23)], type := 24, pos := "terms.go:179", after := #[{ on := 4, ground := Ground.data }], guard := none }) (d := 24) (v := .slice (some ⟨w5.heap.size, 0, none⟩) 1 1) (w' := w5.alloc (.cells #[.int .i64 yk, .int .i64 ym, .int .i64 yf, .int .i64 yt, .slice ynp ynn ync, .slice ykp ykn ykc] 26)) hF rfl rfl (by decide) (fun a' hA => wanted_none rfl) (fun a' hA => by have e23 := hA.get 23 rfl; have ec : ∀ v, a'.eval (.const v) = v := fun _ => rfl; clear hA; generalize a'.eval = ρ at *; simp [go_sem, ec, e23]; try rfl) ?_)
            clear hF
            intro hF
            have hB56 : Below w5.heap.size w5 (w5.alloc (.cells #[.int .i64 yk, .int .i64 ym, .int .i64 yf, .int .i64 yt, .slice ynp ynn ync, .slice ykp ykn ykc] 26)) := (Below.refl _ _).alloc (Nat.le_refl _) _
            have hB6 : (w5.alloc (.cells #[.int .i64 yk, .int .i64 ym, .int .i64 yf, .int .i64 yt, .slice ynp ynn ync, .slice ykp ykn ykc] 26)).heap[b4]? = some (.cells #[.int .i64 yk, .int .i64 ym, .int .i64 yf, .int .i64 yt, .slice ynp ynn ync, .slice ykp ykn ykc] 26 (0, 0)) := (hB56.block b4 (Array.getElem?_eq_some_iff.1 hB5).1).trans hB5
            refine ⟨fun _ => hB6, ?_⟩
            have hgb : S.g < w.heap.size + 1 := by omega
            have HKB : Hid ((w5.alloc (.cells #[.int .i64 yk, .int .i64 ym, .int .i64 yf, .int .i64 yt, .slice ynp ynn ync, .slice ykp ykn ykc] 26)).heap[w5.heap.size]? = some (.cells #[.int .i64 yk, .int .i64 ym, .int .i64 yf, .int .i64 yt, .slice ynp ynn ync, .slice ykp ykn ykc] 26 (0, 0)) ∧ w.heap.size + 1 ≤ w5.heap.size ∧ w5.heap.size ≠ b4) := Lib.hid ⟨heap_alloc_new w5 (.cells #[.int .i64 yk, .int .i64 ym, .int .i64 yf, .int .i64 yt, .slice ynp ynn ync, .slice ykp ykn ykc] 26), by omega, by have := HBS.out; omega⟩
            have HV6 := Lib.hid (own_base (base' := w.heap.size + 1) (ownsRow_below hv hB56) hzr)
            have HNB : Hid (∀ q, np = some q → q.block ≠ b4) := Lib.hid (fun q hq => by subst hq; have h1 := (hv.lt _ rfl).1; have h3 := HBS.out; have h4 : wr.heap.size ≤ q.block := h1; omega)
            have HR6 := Lib.hid (hr5.step hB56)
            have HG6 := Lib.hid (grown_trans (grown_trans (grown_trans HGR.out (grown_below (Below.refl wr.heap.size wr).drew _)) hg5) (grown_below hB56 _))
            have hyl5 : Br.Lies w5 (Br.mk ⟨yk, ym, yf, yt, ynp, ynn, ync, yns, ykp, ykn, ykc⟩ yks) := Br.Lies.kept (P := fun q => w.heap.size + 1 ≤ q ∧ q ≠ b4) _ hs5 (fun q hq hlt => hg5.block q hlt (fun e => by have := Option.some.inj e; omega)) HYO.out HYL.out
            have HY6 : Hid (Br.Lies (w5.alloc (.cells #[.int .i64 yk, .int .i64 ym, .int .i64 yf, .int .i64 yt, .slice ynp ynn ync, .slice ykp ykn ykc] 26)) (Br.mk ⟨yk, ym, yf, yt, ynp, ynn, ync, yns, ykp, ykn, ykc⟩ yks) ∧ Br.On (fun q => w.heap.size + 1 ≤ q ∧ q ≠ b4 ∧ q ≠ w5.heap.size) (Br.mk ⟨yk, ym, yf, yt, ynp, ynn, ync, yns, ykp, ykn, ykc⟩ yks)) := Lib.hid ⟨hyl5.step _ hB56, (Br.On.low _ HYO.out HYL.out).mono (fun q hq => ⟨hq.1.1, hq.1.2, by have := hq.2; omega⟩) _⟩
            have HPO := Lib.hid hpo
            generalize hkb : w5.heap.size = kb at *
            clear hkb hv hr5 hg5 hpo hyl5 hB5 hB56 hS
            have hS : True := trivial
            generalize w5.alloc (.cells #[.int .i64 yk, .int .i64 ym, .int .i64 yf, .int .i64 yt, .slice ynp ynn ync, .slice ykp ykn ykc] 26) = w6 at *
            refine call_fp 6 (oi := { dst := some 25, op := Op.call { callee := Callee.value (Operand.func 38), args := #[Operand.tmp 19, Operand.const (Value.int IntKind.i64 42), Operand.tmp 20, Operand.tmp 22, Operand.tmp 24], argTypes := #[56, 3, 3, 23, 24] }, type := 26, pos := "terms.go:179", after := #[{ on := 0, ground := Ground.data }, { on := 1, ground := Ground.data }, { on := 3, ground := Ground.data }, { on := 5, ground := Ground.data }, { on := 3, ground := Ground.chain }], guard := none }) (d := 25) (R := fun e w' => e = .returned (.agg #[.int .i64 42, .int .i64 0, .int .i64 (n : Int), .int .i64 (n1 : Int), .slice np nn nc, .slice (some ⟨kb, 0, none⟩) 1 1]) ∧ Below w6.heap.size w6 w') hF rfl rfl (by decide) (by kernel_rfl) (fun a' hA => wanted_none rfl) (fun a' hA => by have e19 := hA.get 19 rfl; have e20 := hA.get 20 rfl; have e22 := hA.get 22 rfl; have e24 := hA.get 24 rfl; have ef : ∀ f, a'.eval (.func f) = .func (.func f) #[] #[] := fun _ => rfl; have ec : ∀ v, a'.eval (.const v) = v := fun _ => rfl; clear hA; generalize a'.eval = ρ at *; simp [go_sem, ef, ec, e19, e20, e22, e24]) (rbranch_any S n1 d 42 n np nn nc (some ⟨kb, 0, none⟩) 1 1 w6 HR6.out) (by rintro w' ⟨h, _⟩; cases h) ?_ ?_
            · rintro ch w' ⟨h, _⟩
              cases h
            rintro v w7 ⟨h, hb7⟩
            have h := Ending.returned.inj h
            subst h
            refine ⟨fun h => absurd h (by decide), ?_⟩
            clear hF
            intro hF
            have hb4 := (hb7.block b4 (Array.getElem?_eq_some_iff.1 hB6).1).trans hB6
            obtain ⟨hsix, hgs⟩ := six_set hb4 (.int .i64 42) (.int .i64 0) (.int .i64 (n : Int)) (.int .i64 (n1 : Int)) (.slice np nn nc) (.slice (some ⟨kb, 0, none⟩) 1 1)
            refine wpTill_alone 7 (by kernel_rfl) (store_op 7 (oi := { dst := none, op := Op.store 26 (Operand.tmp 4) (Operand.tmp 25), type := 0, pos := "terms.go:179", after := #[{ on := 6, ground := Ground.data }, { on := 6, ground := Ground.chain }, { on := 0, ground := Ground.phase }, { on := 1, ground := Ground.phase }, { on := 2, ground := Ground.phase }, { on := 3, ground := Ground.phase }, { on := 4, ground := Ground.phase }, { on := 5, ground := Ground.phase }, { on := 6, ground := Ground.phase }], guard := none }) (w' := ((((((w7.setCell ⟨b4, 0, none⟩ (.int .i64 42)).setCell ⟨b4, 1, none⟩ (.int .i64 0)).setCell ⟨b4, 2, none⟩ (.int .i64 (n : Int))).setCell ⟨b4, 3, none⟩ (.int .i64 (n1 : Int))).setCell ⟨b4, 4, none⟩ (.slice np nn nc)).setCell ⟨b4, 5, none⟩ (.slice (some ⟨kb, 0, none⟩) 1 1))) hF rfl rfl (fun a' hA => wanted_none rfl) (fun a' hA => ?_) ?_)
            · have e4 := hA.get 4 rfl
              have e25 := hA.get 25 rfl
              have qq := Lib.cell_of_heap hb4
              have q0 := qq 0
              have q1 := qq 1
              have q2 := qq 2
              have q3 := qq 3
              have q4 := qq 4
              have q5 := qq 5
              simp only [List.getElem?_toArray, List.getElem?_cons_zero, List.getElem?_cons_succ] at q0 q1 q2 q3 q4 q5
              have fz : ∀ i, w7.frozen? ⟨b4, i, none⟩ = false := fun i => by simp [World.frozen?, hb4]
              have f0 := fz 0
              have f1 := fz 1
              have f2 := fz 2
              have f3 := fz 3
              have f4 := fz 4
              have f5 := fz 5
              clear hA hF
              generalize a'.eval = ρ at *
              simp [go_sem, e4, e25, q0, q1, q2, q3, q4, q5, f0, f1, f2, f3, f4, f5]
            refine ⟨fun h => absurd h (by decide), ?_⟩
            refine wpTill_done (by kernel_rfl) ?_ _
            have hkb := HKB.out
            have hown1 : w7.ownsRow (w.heap.size + 1) 26 6 (.slice (some ⟨kb, 0, none⟩) 1 1) [Br.mk ⟨yk, ym, yf, yt, ynp, ynn, ync, yns, ykp, ykn, ykc⟩ yks].length (cellsK [Br.mk ⟨yk, ym, yf, yt, ynp, ynn, ync, yns, ykp, ykn, ykc⟩ yks]) := own_lit ((hb7.block _ (Array.getElem?_eq_some_iff.1 hkb.1).1).trans hkb.1) hkb.2.1 rfl (by unfold maxLen; omega)
            have hkids1 : Kids (w.heap.size + 1) (.slice (some ⟨kb, 0, none⟩) 1 1) w7 [Br.mk ⟨yk, ym, yf, yt, ynp, ynn, ync, yns, ykp, ykn, ykc⟩ yks] := fun z hz => by
              obtain rfl := List.mem_singleton.1 hz
              exact ⟨HY6.out.1.step _ hb7, HY6.out.2.mono (fun q hq => ⟨hq.1, fun e => hq.2.2 (Option.some.inj (show some q = some (kb) from e))⟩) _⟩
            have HL := node_lies (w0 := w) (w1 := w) 42 0 n n1 (ownsRow_below HV6.out hb7) hown1 hkids1
            have hon : Br.On (fun q => w.heap.size + 1 ≤ q ∧ q ≠ b4) (.mk ⟨42, 0, n, n1, np, nn, nc, p.map (fun x : Nat => (x : Int)), some ⟨kb, 0, none⟩, 1, 1⟩ [Br.mk ⟨yk, ym, yf, yt, ynp, ynn, ync, yns, ykp, ykn, ykc⟩ yks]) := by
              rw [on_iff]
              refine ⟨fun q _ hq => ⟨?_, HNB.out q (by simpa [Br.h] using hq)⟩, fun q _ hq => ?_, fun z hz => ?_⟩
              · simp only [Br.h] at hq; subst hq; exact (HV6.out.lt _ rfl).1
              · simp only [Br.h, Option.some.injEq] at hq; subst hq; exact ⟨hkb.2.1, hkb.2.2⟩
              · simp only [Br.ks, List.mem_singleton] at hz; subst hz; exact HY6.out.2.mono (fun q hq => ⟨hq.1, hq.2.1⟩) _
            have hlies : Br.Lies ((((((w7.setCell ⟨b4, 0, none⟩ (.int .i64 42)).setCell ⟨b4, 1, none⟩ (.int .i64 0)).setCell ⟨b4, 2, none⟩ (.int .i64 (n : Int))).setCell ⟨b4, 3, none⟩ (.int .i64 (n1 : Int))).setCell ⟨b4, 4, none⟩ (.slice np nn nc)).setCell ⟨b4, 5, none⟩ (.slice (some ⟨kb, 0, none⟩) 1 1)) (.mk ⟨42, 0, n, n1, np, nn, nc, p.map (fun x : Nat => (x : Int)), some ⟨kb, 0, none⟩, 1, 1⟩ [Br.mk ⟨yk, ym, yf, yt, ynp, ynn, ync, yns, ykp, ykn, ykc⟩ yks]) :=
              Br.Lies.kept (P := fun q => w.heap.size + 1 ≤ q ∧ q ≠ b4) _ hgs.size (fun q hq hlt => hgs.block q hlt (fun e => hq.2 (Option.some.inj e))) hon HL.1
            have HFR := Lib.hid (And.intro hsix (And.intro hlies (And.intro hon (And.intro ((HR6.out.step hb7).grow hgs (fun e => by have := Option.some.inj e; omega) (fun e => by have := Option.some.inj e; omega)) (And.intro (Array.getElem?_eq_some_iff.1 hsix).1 (grown_own (grown_trans HG6.out (grown_below hb7 _)) hgs (fun q hq => by have := Option.some.inj hq; simp; omega)))))))
            subst ha0
            simp only [Act.put, List.setIfInBounds_toArray, List.set_cons_zero, List.set_cons_succ]
            clear hF hsix hgs hb4 hB6 hkb hown1 hkids1 HL hon hlies hb7 hS
            generalize ((((((w7.setCell ⟨b4, 0, none⟩ (.int .i64 42)).setCell ⟨b4, 1, none⟩ (.int .i64 0)).setCell ⟨b4, 2, none⟩ (.int .i64 (n : Int))).setCell ⟨b4, 3, none⟩ (.int .i64 (n1 : Int))).setCell ⟨b4, 4, none⟩ (.slice np nn nc)).setCell ⟨b4, 5, none⟩ (.slice (some ⟨kb, 0, none⟩) 1 1)) = w8 at *
            go_wp2_with fail
            go_roundg gk
            case measure => omega
            case rel => exact ⟨.mk ⟨42, 0, n, n1, np, nn, nc, p.map (fun x : Nat => (x : Int)), some ⟨kb, 0, none⟩, 1, 1⟩ [Br.mk ⟨yk, ym, yf, yt, ynp, ynn, ync, yns, ykp, ykn, ykc⟩ yks], n1, Lib.hid (by rw [HEQ.out, HPO.out]; simp [bind_ok, Br.pb, pbs, node]), Lib.hid HFR.out.1, Lib.hid HFR.out.2.1, Lib.hid HFR.out.2.2.1, Lib.hid HFR.out.2.2.2.1, Lib.hid HFR.out.2.2.2.2.1, HFR.out.2.2.2.2.2⟩
          · refine make_op 5 (oi := { dst := some 24, op := Op.buildSlice 24 1 #[(0, Operand.tmp 23)], type := 24, pos := "terms.go:179", after := #[{ on := 4, ground := Ground.data }], guard := none }) (d := 24) (v := .slice (some ⟨wr.heap.size, 0, none⟩) 1 1) (w' := wr.drew.alloc (.cells #[.int .i64 yk, .int .i64 ym, .int .i64 yf, .int .i64 yt, .slice ynp ynn ync, .slice ykp ykn ykc] 26)) hF rfl rfl (by decide) (fun a' hA => wanted_none rfl) (fun a' hA => by have e23 := hA.get 23 rfl; have ec : ∀ v, a'.eval (.const v) = v := fun _ => rfl; clear hA; generalize a'.eval = ρ at *; simp [go_sem, ec, e23]; try rfl) ?_
            clear hF
            intro hF
            have hB5 : Below wr.heap.size wr (wr.drew.alloc (.cells #[.int .i64 yk, .int .i64 ym, .int .i64 yf, .int .i64 yt, .slice ynp ynn ync, .slice ykp ykn ykc] 26)) := (Below.refl wr.heap.size wr).drew.alloc (Nat.le_refl _) _
            have hK5 : (wr.drew.alloc (.cells #[.int .i64 yk, .int .i64 ym, .int .i64 yf, .int .i64 yt, .slice ynp ynn ync, .slice ykp ykn ykc] 26)).heap[wr.heap.size]? = some (.cells #[.int .i64 yk, .int .i64 ym, .int .i64 yf, .int .i64 yt, .slice ynp ynn ync, .slice ykp ykn ykc] 26 (0, 0)) := heap_alloc_new wr.drew (.cells #[.int .i64 yk, .int .i64 ym, .int .i64 yf, .int .i64 yt, .slice ynp ynn ync, .slice ykp ykn ykc] 26)
            have hX5 : (wr.drew.alloc (.cells #[.int .i64 yk, .int .i64 ym, .int .i64 yf, .int .i64 yt, .slice ynp ynn ync, .slice ykp ykn ykc] 26)).heap[b4]? = some (.cells #[.int .i64 yk, .int .i64 ym, .int .i64 yf, .int .i64 yt, .slice ynp ynn ync, .slice ykp ykn ykc] 26 (0, 0)) := (hB5.block b4 HBS.out).trans HBX.out
            have hz5 : (wr.drew.alloc (.cells #[.int .i64 yk, .int .i64 ym, .int .i64 yf, .int .i64 yt, .slice ynp ynn ync, .slice ykp ykn ykc] 26)).heap.size = wr.heap.size + 1 := by simp
            refine ⟨fun _ => hX5, ?_⟩
            have HR5 := Lib.hid (HR.out.step hB5)
            generalize wr.drew.alloc (.cells #[.int .i64 yk, .int .i64 ym, .int .i64 yf, .int .i64 yt, .slice ynp ynn ync, .slice ykp ykn ykc] 26) = w5 at *
            refine wpTill_alone 3 (by kernel_rfl) (call_op 3 (oi := { dst := some 22, op := Op.call { callee := Callee.value (Operand.func 75), args := #[Operand.tmp 21], argTypes := #[56] }, type := 23, pos := "terms.go:179", after := #[{ on := 2, ground := Ground.data }], guard := none }) (d := 22) (R := fun e w' => Ends S d w5 (S.typePath i) (RL w5) e w') hF rfl rfl (by decide) (fun a' hA => wanted_none rfl) (fun a' hA => by have e21 := hA.get 21 rfl; have ef : ∀ f, a'.eval (.func f) = .func (.func f) #[] #[] := fun _ => rfl; have ec : ∀ v, a'.eval (.const v) = v := fun _ => rfl; clear hA; generalize a'.eval = ρ at *; simp [go_sem, ef, ec, e21]) (rtypePath_any S i d w5 HR5.out (bind_dry (by rw [← HEQ.out]; exact HDRY.out))) (fun w' => Ends.noOut) ?_ ?_)
            · rintro ch w' (⟨_, _, _, _, h2, _⟩ | ⟨ch', ho, h2, hg⟩)
              · cases h2
              · have h2 := Ending.panicked.inj h2
                subst h2
                have hq : bodyPost Tryz.prog Tryz.f76 (fun e w' => Ends S d w tot (RB w) e w') (.panic ch) _ w' := ⟨hF.2.1, Or.inr ⟨ch, by rw [HEQ.out]; exact pan_bind ho, rfl, grown_trans (grown_below ((Below.refl _ _).alloc (Nat.le_refl _) _) _) (grown_trans (grown_trans HGR.out (grown_below hB5 _)) hg)⟩⟩
                exact hq
            rintro v w6 (⟨p, n1, v', hpo, h2, hv, hr6, hg6⟩ | ⟨_, _, h2, _⟩) hF2
            rotate_left
            · cases h2
            have h2 := Ending.returned.inj h2
            subst h2
            obtain ⟨np, nn, nc, rfl⟩ := hv.form
            have hF := hF2
            clear hF2
            have hB6 : w6.heap[b4]? = some (.cells #[.int .i64 yk, .int .i64 ym, .int .i64 yf, .int .i64 yt, .slice ynp ynn ync, .slice ykp ykn ykc] 26 (0, 0)) := (hg6.block b4 (by have := HBS.out; omega) (fun e => hb4g (Option.some.inj e))).trans hX5
            refine ⟨fun _ => hB6, ?_⟩
            have hs6 : w5.heap.size ≤ w6.heap.size := hg6.size
            have HKB : Hid (w6.heap[wr.heap.size]? = some (.cells #[.int .i64 yk, .int .i64 ym, .int .i64 yf, .int .i64 yt, .slice ynp ynn ync, .slice ykp ykn ykc] 26 (0, 0)) ∧ w.heap.size + 1 ≤ wr.heap.size ∧ wr.heap.size ≠ b4) := Lib.hid ⟨(hg6.block wr.heap.size (by omega) (fun e => by have := Option.some.inj e; omega)).trans hK5, by omega, by have := HBS.out; omega⟩
            have HV6 := Lib.hid (own_base (base' := w.heap.size + 1) hv (by omega))
            have HNB : Hid (∀ q, np = some q → q.block ≠ b4) := Lib.hid (fun q hq => by subst hq; have h1 := (hv.lt _ rfl).1; have h3 := HBS.out; omega)
            have HR6 := Lib.hid hr6
            have HG6 := Lib.hid (grown_trans (grown_trans HGR.out (grown_below hB5 _)) hg6)
            have hyl5 : Br.Lies w6 (Br.mk ⟨yk, ym, yf, yt, ynp, ynn, ync, yns, ykp, ykn, ykc⟩ yks) := Br.Lies.kept (P := fun q => w.heap.size + 1 ≤ q ∧ q ≠ b4) _ hs6 (fun q hq hlt => hg6.block q hlt (fun e => by have := Option.some.inj e; omega)) HYO.out (HYL.out.step _ hB5)
            have HY6 : Hid (Br.Lies w6 (Br.mk ⟨yk, ym, yf, yt, ynp, ynn, ync, yns, ykp, ykn, ykc⟩ yks) ∧ Br.On (fun q => w.heap.size + 1 ≤ q ∧ q ≠ b4 ∧ q ≠ wr.heap.size) (Br.mk ⟨yk, ym, yf, yt, ynp, ynn, ync, yns, ykp, ykn, ykc⟩ yks)) := Lib.hid ⟨hyl5, (Br.On.low _ HYO.out HYL.out).mono (fun q hq => ⟨hq.1.1, hq.1.2, by have := hq.2; omega⟩) _⟩
            have HPO := Lib.hid hpo
            generalize hkb : wr.heap.size = kb at *
            clear hkb hv hr6 hg6 hpo hyl5 hB5 hX5 hK5 hz5 hS
            have hS : True := trivial
            refine call_fp 6 (oi := { dst := some 25, op := Op.call { callee := Callee.value (Operand.func 38), args := #[Operand.tmp 19, Operand.const (Value.int IntKind.i64 42), Operand.tmp 20, Operand.tmp 22, Operand.tmp 24], argTypes := #[56, 3, 3, 23, 24] }, type := 26, pos := "terms.go:179", after := #[{ on := 0, ground := Ground.data }, { on := 1, ground := Ground.data }, { on := 3, ground := Ground.data }, { on := 5, ground := Ground.data }, { on := 3, ground := Ground.chain }], guard := none }) (d := 25) (R := fun e w' => e = .returned (.agg #[.int .i64 42, .int .i64 0, .int .i64 (n : Int), .int .i64 (n1 : Int), .slice np nn nc, .slice (some ⟨kb, 0, none⟩) 1 1]) ∧ Below w6.heap.size w6 w') hF rfl rfl (by decide) (by kernel_rfl) (fun a' hA => wanted_none rfl) (fun a' hA => by have e19 := hA.get 19 rfl; have e20 := hA.get 20 rfl; have e22 := hA.get 22 rfl; have e24 := hA.get 24 rfl; have ef : ∀ f, a'.eval (.func f) = .func (.func f) #[] #[] := fun _ => rfl; have ec : ∀ v, a'.eval (.const v) = v := fun _ => rfl; clear hA; generalize a'.eval = ρ at *; simp [go_sem, ef, ec, e19, e20, e22, e24]) (rbranch_any S n1 d 42 n np nn nc (some ⟨kb, 0, none⟩) 1 1 w6 HR6.out) (by rintro w' ⟨h, _⟩; cases h) ?_ ?_
            · rintro ch w' ⟨h, _⟩
              cases h
            rintro v w7 ⟨h, hb7⟩
            have h := Ending.returned.inj h
            subst h
            refine ⟨fun h => absurd h (by decide), ?_⟩
            clear hF
            intro hF
            have hb4 := (hb7.block b4 (Array.getElem?_eq_some_iff.1 hB6).1).trans hB6
            obtain ⟨hsix, hgs⟩ := six_set hb4 (.int .i64 42) (.int .i64 0) (.int .i64 (n : Int)) (.int .i64 (n1 : Int)) (.slice np nn nc) (.slice (some ⟨kb, 0, none⟩) 1 1)
            refine wpTill_alone 7 (by kernel_rfl) (store_op 7 (oi := { dst := none, op := Op.store 26 (Operand.tmp 4) (Operand.tmp 25), type := 0, pos := "terms.go:179", after := #[{ on := 6, ground := Ground.data }, { on := 6, ground := Ground.chain }, { on := 0, ground := Ground.phase }, { on := 1, ground := Ground.phase }, { on := 2, ground := Ground.phase }, { on := 3, ground := Ground.phase }, { on := 4, ground := Ground.phase }, { on := 5, ground := Ground.phase }, { on := 6, ground := Ground.phase }], guard := none }) (w' := ((((((w7.setCell ⟨b4, 0, none⟩ (.int .i64 42)).setCell ⟨b4, 1, none⟩ (.int .i64 0)).setCell ⟨b4, 2, none⟩ (.int .i64 (n : Int))).setCell ⟨b4, 3, none⟩ (.int .i64 (n1 : Int))).setCell ⟨b4, 4, none⟩ (.slice np nn nc)).setCell ⟨b4, 5, none⟩ (.slice (some ⟨kb, 0, none⟩) 1 1))) hF rfl rfl (fun a' hA => wanted_none rfl) (fun a' hA => ?_) ?_)
            · have e4 := hA.get 4 rfl
              have e25 := hA.get 25 rfl
              have qq := Lib.cell_of_heap hb4
              have q0 := qq 0
              have q1 := qq 1
              have q2 := qq 2
              have q3 := qq 3
              have q4 := qq 4
              have q5 := qq 5
              simp only [List.getElem?_toArray, List.getElem?_cons_zero, List.getElem?_cons_succ] at q0 q1 q2 q3 q4 q5
              have fz : ∀ i, w7.frozen? ⟨b4, i, none⟩ = false := fun i => by simp [World.frozen?, hb4]
              have f0 := fz 0
              have f1 := fz 1
              have f2 := fz 2
              have f3 := fz 3
              have f4 := fz 4
              have f5 := fz 5
              clear hA hF
              generalize a'.eval = ρ at *
              simp [go_sem, e4, e25, q0, q1, q2, q3, q4, q5, f0, f1, f2, f3, f4, f5]
            refine ⟨fun h => absurd h (by decide), ?_⟩
            refine wpTill_done (by kernel_rfl) ?_ _
            have hkb := HKB.out
            have hown1 : w7.ownsRow (w.heap.size + 1) 26 6 (.slice (some ⟨kb, 0, none⟩) 1 1) [Br.mk ⟨yk, ym, yf, yt, ynp, ynn, ync, yns, ykp, ykn, ykc⟩ yks].length (cellsK [Br.mk ⟨yk, ym, yf, yt, ynp, ynn, ync, yns, ykp, ykn, ykc⟩ yks]) := own_lit ((hb7.block _ (Array.getElem?_eq_some_iff.1 hkb.1).1).trans hkb.1) hkb.2.1 rfl (by unfold maxLen; omega)
            have hkids1 : Kids (w.heap.size + 1) (.slice (some ⟨kb, 0, none⟩) 1 1) w7 [Br.mk ⟨yk, ym, yf, yt, ynp, ynn, ync, yns, ykp, ykn, ykc⟩ yks] := fun z hz => by
              obtain rfl := List.mem_singleton.1 hz
              exact ⟨HY6.out.1.step _ hb7, HY6.out.2.mono (fun q hq => ⟨hq.1, fun e => hq.2.2 (Option.some.inj (show some q = some (kb) from e))⟩) _⟩
            have HL := node_lies (w0 := w) (w1 := w) 42 0 n n1 (ownsRow_below HV6.out hb7) hown1 hkids1
            have hon : Br.On (fun q => w.heap.size + 1 ≤ q ∧ q ≠ b4) (.mk ⟨42, 0, n, n1, np, nn, nc, p.map (fun x : Nat => (x : Int)), some ⟨kb, 0, none⟩, 1, 1⟩ [Br.mk ⟨yk, ym, yf, yt, ynp, ynn, ync, yns, ykp, ykn, ykc⟩ yks]) := by
              rw [on_iff]
              refine ⟨fun q _ hq => ⟨?_, HNB.out q (by simpa [Br.h] using hq)⟩, fun q _ hq => ?_, fun z hz => ?_⟩
              · simp only [Br.h] at hq; subst hq; exact (HV6.out.lt _ rfl).1
              · simp only [Br.h, Option.some.injEq] at hq; subst hq; exact ⟨hkb.2.1, hkb.2.2⟩
              · simp only [Br.ks, List.mem_singleton] at hz; subst hz; exact HY6.out.2.mono (fun q hq => ⟨hq.1, hq.2.1⟩) _
            have hlies : Br.Lies ((((((w7.setCell ⟨b4, 0, none⟩ (.int .i64 42)).setCell ⟨b4, 1, none⟩ (.int .i64 0)).setCell ⟨b4, 2, none⟩ (.int .i64 (n : Int))).setCell ⟨b4, 3, none⟩ (.int .i64 (n1 : Int))).setCell ⟨b4, 4, none⟩ (.slice np nn nc)).setCell ⟨b4, 5, none⟩ (.slice (some ⟨kb, 0, none⟩) 1 1)) (.mk ⟨42, 0, n, n1, np, nn, nc, p.map (fun x : Nat => (x : Int)), some ⟨kb, 0, none⟩, 1, 1⟩ [Br.mk ⟨yk, ym, yf, yt, ynp, ynn, ync, yns, ykp, ykn, ykc⟩ yks]) :=
              Br.Lies.kept (P := fun q => w.heap.size + 1 ≤ q ∧ q ≠ b4) _ hgs.size (fun q hq hlt => hgs.block q hlt (fun e => hq.2 (Option.some.inj e))) hon HL.1
            have HFR := Lib.hid (And.intro hsix (And.intro hlies (And.intro hon (And.intro ((HR6.out.step hb7).grow hgs (fun e => by have := Option.some.inj e; omega) (fun e => by have := Option.some.inj e; omega)) (And.intro (Array.getElem?_eq_some_iff.1 hsix).1 (grown_own (grown_trans HG6.out (grown_below hb7 _)) hgs (fun q hq => by have := Option.some.inj hq; simp; omega)))))))
            subst ha0
            simp only [Act.put, List.setIfInBounds_toArray, List.set_cons_zero, List.set_cons_succ]
            clear hF hsix hgs hb4 hB6 hkb hown1 hkids1 HL hon hlies hb7 hS
            generalize ((((((w7.setCell ⟨b4, 0, none⟩ (.int .i64 42)).setCell ⟨b4, 1, none⟩ (.int .i64 0)).setCell ⟨b4, 2, none⟩ (.int .i64 (n : Int))).setCell ⟨b4, 3, none⟩ (.int .i64 (n1 : Int))).setCell ⟨b4, 4, none⟩ (.slice np nn nc)).setCell ⟨b4, 5, none⟩ (.slice (some ⟨kb, 0, none⟩) 1 1)) = w8 at *
            go_wp2_with fail
            go_roundg gk
            case measure => omega
            case rel => exact ⟨.mk ⟨42, 0, n, n1, np, nn, nc, p.map (fun x : Nat => (x : Int)), some ⟨kb, 0, none⟩, 1, 1⟩ [Br.mk ⟨yk, ym, yf, yt, ynp, ynn, ync, yns, ykp, ykn, ykc⟩ yks], n1, Lib.hid (by rw [HEQ.out, HPO.out]; simp [bind_ok, Br.pb, pbs, node]), Lib.hid HFR.out.1, Lib.hid HFR.out.2.1, Lib.hid HFR.out.2.2.1, Lib.hid HFR.out.2.2.2.1, Lib.hid HFR.out.2.2.2.2.1, HFR.out.2.2.2.2.2⟩
      · have HEQ : Hid (tot = (S.typePath i).bind fun p m1 => appliedL S n gk (node 42 n m1 p [Br.pb (Br.mk ⟨yk, ym, yf, yt, ynp, ynn, ync, yns, ykp, ykn, ykc⟩ yks)]) m1) := Lib.hid (by rw [HLS.out, h7]; rfl)
        clear HLS
        generalize S.kd i = kdi at *
        go_wp2_with fail
        refine (HK.out _ (Below.refl _ _)).mono ?_
        rintro e w5 ⟨rfl, hb5⟩
        have HBX2 := Lib.hid ((hb5.block b4 HBS.out).trans HBX.out)
        have HYL2 := Lib.hid (HYL.out.step _ hb5)
        have HR2 := Lib.hid (HR.out.step hb5)
        have HBS2 : Hid (b4 < w5.heap.size) := Lib.hid (Nat.lt_of_lt_of_le HBS.out hb5.size)
        have HGR2 := Lib.hid (grown_trans HGR.out (grown_below hb5 _))
        have hzr2 : w.heap.size + 1 ≤ w5.heap.size := Nat.le_trans hzr hb5.size
        clear hb5 HK HBX HYL HR HBS HGR hzr
        go_wp2_with fail
        obtain ⟨wr, hwr⟩ : ∃ wr, wr = w5 := ⟨_, rfl⟩
        subst hwr
        have HBX := HBX2
        have HYL := HYL2
        have HR := HR2
        have HBS := HBS2
        have HGR := HGR2
        have hzr := hzr2
        clear HBX2 HYL2 HR2 HBS2 HGR2 hzr2 h7
        refine wp_region_till (fun W : World => W.heap[b4]? = some (.cells #[.int .i64 yk, .int .i64 ym, .int .i64 yf, .int .i64 yt, .slice ynp ynn ync, .slice ykp ykn ykc] 26 (0, 0))) 6 (by kernel_rfl) ?_
        have hS : (fun W : World => W.heap[b4]? = some (.cells #[.int .i64 yk, .int .i64 ym, .int .i64 yf, .int .i64 yt, .slice ynp ynn ync, .slice ykp ykn ykc] 26 (0, 0))) wr.drew := HBX.out
        refine start_fp (N := 27) [(0, .pointer (some ⟨S.g, 0, none⟩)), (3, .int .i64 (n : Int)), (4, .pointer (some ⟨b4, 0, none⟩))] (Fs.of rfl rfl (by simp [Act.eval])) ?_
        intro a0 ha0 hF
        refine take_fp 0 [6, 7] (oi := { dst := some 19, op := Op.move (Operand.tmp 0), type := 56, pos := "terms.go:179", after := #[], guard := none }) (d := 19) (v := .pointer (some ⟨S.g, 0, none⟩)) hF hS rfl rfl (by decide) (by kernel_rfl) (by kernel_rfl) (by kernel_rfl) (by kernel_rfl) (fun _ _ _ h => h) (fun a' hA => wanted_none rfl) (run_move_fs rfl rfl) ?_
        clear hF
        intro hF
        refine take_fp 1 [6, 7] (oi := { dst := some 20, op := Op.move (Operand.tmp 3), type := 3, pos := "terms.go:179", after := #[], guard := none }) (d := 20) (v := .int .i64 (n : Int)) hF hS rfl rfl (by decide) (by kernel_rfl) (by kernel_rfl) (by kernel_rfl) (by kernel_rfl) (fun _ _ _ h => h) (fun a' hA => wanted_none rfl) (run_move_fs rfl rfl) ?_
        clear hF
        intro hF
        refine take_fp 2 [3, 6, 7] (oi := { dst := some 21, op := Op.move (Operand.tmp 0), type := 56, pos := "terms.go:179", after := #[], guard := none }) (d := 21) (v := .pointer (some ⟨S.g, 0, none⟩)) hF hS rfl rfl (by decide) (by kernel_rfl) (by kernel_rfl) (by kernel_rfl) (by kernel_rfl) (fun _ _ _ h => h) (fun a' hA => wanted_none rfl) (run_move_fs rfl rfl) ?_
        clear hF
        intro hF
        refine take_fp 4 [5, 6, 7] (oi := { dst := some 23, op := Op.load 26 (Operand.tmp 4), type := 26, pos := "terms.go:179", after := #[], guard := none }) (d := 23) (v := .agg #[.int .i64 yk, .int .i64 ym, .int .i64 yf, .int .i64 yt, .slice ynp ynn ync, .slice ykp ykn ykc]) hF hS rfl rfl (by decide) (by kernel_rfl) (by kernel_rfl) (by kernel_rfl) (by kernel_rfl) (fun _ _ _ h => h) (fun a' hA => wanted_none rfl) (fun a' hA w' hw => by have e4 := hA.get 4 rfl; have ec : ∀ v, a'.eval (.const v) = v := fun _ => rfl; have qq := Lib.cell_of_heap hw; have q0 := qq 0; have q1 := qq 1; have q2 := qq 2; have q3 := qq 3; have q4 := qq 4; have q5 := qq 5; simp only [List.getElem?_toArray, List.getElem?_cons_zero, List.getElem?_cons_succ] at q0 q1 q2 q3 q4 q5; clear qq; clear hA; generalize a'.eval = ρ at *; simp [go_sem, ec, e4, q0, q1, q2, q3, q4, q5]; try rfl) ?_
        clear hF
        intro hF
        refine wpTill_two 3 5 (by kernel_rfl) (fun _ => ?_) (fun _ => ?_)
        · refine call_op 3 (oi := { dst := some 22, op := Op.call { callee := Callee.value (Operand.func 75), args := #[Operand.tmp 21], argTypes := #[56] }, type := 23, pos := "terms.go:179", after := #[{ on := 2, ground := Ground.data }], guard := none }) (d := 22) (R := fun e w' => Ends S d wr.drew (S.typePath i) (RL wr.drew) e w') hF rfl rfl (by decide) (fun a' hA => wanted_none rfl) (fun a' hA => by have e21 := hA.get 21 rfl; have ef : ∀ f, a'.eval (.func f) = .func (.func f) #[] #[] := fun _ => rfl; have ec : ∀ v, a'.eval (.const v) = v := fun _ => rfl; clear hA; generalize a'.eval = ρ at *; simp [go_sem, ef, ec, e21]) (rtypePath_any S i d wr.drew (HR.out.step (Below.refl wr.heap.size wr).drew) (bind_dry (by rw [← HEQ.out]; exact HDRY.out))) (fun w' => Ends.noOut) ?_ ?_
          · rintro ch w' (⟨_, _, _, _, h2, _⟩ | ⟨ch', ho, h2, hg⟩)
            · cases h2
            · have h2 := Ending.panicked.inj h2
              subst h2
              have hq : bodyPost Tryz.prog Tryz.f76 (fun e w' => Ends S d w tot (RB w) e w') (.panic ch) _ w' := ⟨hF.2.1, Or.inr ⟨ch, by rw [HEQ.out]; exact pan_bind ho, rfl, grown_trans (grown_below ((Below.refl _ _).alloc (Nat.le_refl _) _) _) (grown_trans (grown_trans HGR.out (grown_below (Below.refl wr.heap.size wr).drew _)) hg)⟩⟩
              exact hq
          rintro v w5 (⟨p, n1, v', hpo, h2, hv, hr5, hg5⟩ | ⟨_, _, h2, _⟩) hF2
          rotate_left
          · cases h2
          have h2 := Ending.returned.inj h2
          subst h2
          obtain ⟨np, nn, nc, rfl⟩ := hv.form
          have hF := hF2
          clear hF2
          have hs5 : wr.heap.size ≤ w5.heap.size := hg5.size
          have hB5 : w5.heap[b4]? = some (.cells #[.int .i64 yk, .int .i64 ym, .int .i64 yf, .int .i64 yt, .slice ynp ynn ync, .slice ykp ykn ykc] 26 (0, 0)) := (hg5.block b4 HBS.out (fun e => hb4g (Option.some.inj e))).trans HBX.out
          refine ⟨fun _ => hB5, ?_⟩
          refine wpTill_alone 5 (by kernel_rfl) (make_op 5 (oi := { dst := some 24, op := Op.buildSlice 24 1 #[(0, Operand.tmp 23)], type := 24, pos := "terms.go:179", after := #[{ on := 4, ground := Ground.data }], guard := none }) (d := 24) (v := .slice (some ⟨w5.heap.size, 0, none⟩) 1 1) (w' := w5.alloc (.cells #[.int .i64 yk, .int .i64 ym, .int .i64 yf, .int .i64 yt, .slice ynp ynn ync, .slice ykp ykn ykc] 26)) hF rfl rfl (by decide) (fun a' hA => wanted_none rfl) (fun a' hA => by have e23 := hA.get 23 rfl; have ec : ∀ v, a'.eval (.const v) = v := fun _ => rfl; clear hA; generalize a'.eval = ρ at *; simp [go_sem, ec, e23]; try rfl) ?_)
          clear hF
          intro hF
          have hB56 : Below w5.heap.size w5 (w5.alloc (.cells #[.int .i64 yk, .int .i64 ym, .int .i64 yf, .int .i64 yt, .slice ynp ynn ync, .slice ykp ykn ykc] 26)) := (Below.refl _ _).alloc (Nat.le_refl _) _
          have hB6 : (w5.alloc (.cells #[.int .i64 yk, .int .i64 ym, .int .i64 yf, .int .i64 yt, .slice ynp ynn ync, .slice ykp ykn ykc] 26)).heap[b4]? = some (.cells #[.int .i64 yk, .int .i64 ym, .int .i64 yf, .int .i64 yt, .slice ynp ynn ync, .slice ykp ykn ykc] 26 (0, 0)) := (hB56.block b4 (Array.getElem?_eq_some_iff.1 hB5).1).trans hB5
          refine ⟨fun _ => hB6, ?_⟩
          have hgb : S.g < w.heap.size + 1 := by omega
          have HKB : Hid ((w5.alloc (.cells #[.int .i64 yk, .int .i64 ym, .int .i64 yf, .int .i64 yt, .slice ynp ynn ync, .slice ykp ykn ykc] 26)).heap[w5.heap.size]? = some (.cells #[.int .i64 yk, .int .i64 ym, .int .i64 yf, .int .i64 yt, .slice ynp ynn ync, .slice ykp ykn ykc] 26 (0, 0)) ∧ w.heap.size + 1 ≤ w5.heap.size ∧ w5.heap.size ≠ b4) := Lib.hid ⟨heap_alloc_new w5 (.cells #[.int .i64 yk, .int .i64 ym, .int .i64 yf, .int .i64 yt, .slice ynp ynn ync, .slice ykp ykn ykc] 26), by omega, by have := HBS.out; omega⟩
          have HV6 := Lib.hid (own_base (base' := w.heap.size + 1) (ownsRow_below hv hB56) hzr)
          have HNB : Hid (∀ q, np = some q → q.block ≠ b4) := Lib.hid (fun q hq => by subst hq; have h1 := (hv.lt _ rfl).1; have h3 := HBS.out; have h4 : wr.heap.size ≤ q.block := h1; omega)
          have HR6 := Lib.hid (hr5.step hB56)
          have HG6 := Lib.hid (grown_trans (grown_trans (grown_trans HGR.out (grown_below (Below.refl wr.heap.size wr).drew _)) hg5) (grown_below hB56 _))
          have hyl5 : Br.Lies w5 (Br.mk ⟨yk, ym, yf, yt, ynp, ynn, ync, yns, ykp, ykn, ykc⟩ yks) := Br.Lies.kept (P := fun q => w.heap.size + 1 ≤ q ∧ q ≠ b4) _ hs5 (fun q hq hlt => hg5.block q hlt (fun e => by have := Option.some.inj e; omega)) HYO.out HYL.out
          have HY6 : Hid (Br.Lies (w5.alloc (.cells #[.int .i64 yk, .int .i64 ym, .int .i64 yf, .int .i64 yt, .slice ynp ynn ync, .slice ykp ykn ykc] 26)) (Br.mk ⟨yk, ym, yf, yt, ynp, ynn, ync, yns, ykp, ykn, ykc⟩ yks) ∧ Br.On (fun q => w.heap.size + 1 ≤ q ∧ q ≠ b4 ∧ q ≠ w5.heap.size) (Br.mk ⟨yk, ym, yf, yt, ynp, ynn, ync, yns, ykp, ykn, ykc⟩ yks)) := Lib.hid ⟨hyl5.step _ hB56, (Br.On.low _ HYO.out HYL.out).mono (fun q hq => ⟨hq.1.1, hq.1.2, by have := hq.2; omega⟩) _⟩
          have HPO := Lib.hid hpo
          generalize hkb : w5.heap.size = kb at *
          clear hkb hv hr5 hg5 hpo hyl5 hB5 hB56 hS
          have hS : True := trivial
          generalize w5.alloc (.cells #[.int .i64 yk, .int .i64 ym, .int .i64 yf, .int .i64 yt, .slice ynp ynn ync, .slice ykp ykn ykc] 26) = w6 at *
          refine call_fp 6 (oi := { dst := some 25, op := Op.call { callee := Callee.value (Operand.func 38), args := #[Operand.tmp 19, Operand.const (Value.int IntKind.i64 42), Operand.tmp 20, Operand.tmp 22, Operand.tmp 24], argTypes := #[56, 3, 3, 23, 24] }, type := 26, pos := "terms.go:179", after := #[{ on := 0, ground := Ground.data }, { on := 1, ground := Ground.data }, { on := 3, ground := Ground.data }, { on := 5, ground := Ground.data }, { on := 3, ground := Ground.chain }], guard := none }) (d := 25) (R := fun e w' => e = .returned (.agg #[.int .i64 42, .int .i64 0, .int .i64 (n : Int), .int .i64 (n1 : Int), .slice np nn nc, .slice (some ⟨kb, 0, none⟩) 1 1]) ∧ Below w6.heap.size w6 w') hF rfl rfl (by decide) (by kernel_rfl) (fun a' hA => wanted_none rfl) (fun a' hA => by have e19 := hA.get 19 rfl; have e20 := hA.get 20 rfl; have e22 := hA.get 22 rfl; have e24 := hA.get 24 rfl; have ef : ∀ f, a'.eval (.func f) = .func (.func f) #[] #[] := fun _ => rfl; have ec : ∀ v, a'.eval (.const v) = v := fun _ => rfl; clear hA; generalize a'.eval = ρ at *; simp [go_sem, ef, ec, e19, e20, e22, e24]) (rbranch_any S n1 d 42 n np nn nc (some ⟨kb, 0, none⟩) 1 1 w6 HR6.out) (by rintro w' ⟨h, _⟩; cases h) ?_ ?_
          · rintro ch w' ⟨h, _⟩
            cases h
          rintro v w7 ⟨h, hb7⟩
          have h := Ending.returned.inj h
          subst h
          refine ⟨fun h => absurd h (by decide), ?_⟩
          clear hF
          intro hF
          have hb4 := (hb7.block b4 (Array.getElem?_eq_some_iff.1 hB6).1).trans hB6
          obtain ⟨hsix, hgs⟩ := six_set hb4 (.int .i64 42) (.int .i64 0) (.int .i64 (n : Int)) (.int .i64 (n1 : Int)) (.slice np nn nc) (.slice (some ⟨kb, 0, none⟩) 1 1)
          refine wpTill_alone 7 (by kernel_rfl) (store_op 7 (oi := { dst := none, op := Op.store 26 (Operand.tmp 4) (Operand.tmp 25), type := 0, pos := "terms.go:179", after := #[{ on := 6, ground := Ground.data }, { on := 6, ground := Ground.chain }, { on := 0, ground := Ground.phase }, { on := 1, ground := Ground.phase }, { on := 2, ground := Ground.phase }, { on := 3, ground := Ground.phase }, { on := 4, ground := Ground.phase }, { on := 5, ground := Ground.phase }, { on := 6, ground := Ground.phase }], guard := none }) (w' := ((((((w7.setCell ⟨b4, 0, none⟩ (.int .i64 42)).setCell ⟨b4, 1, none⟩ (.int .i64 0)).setCell ⟨b4, 2, none⟩ (.int .i64 (n : Int))).setCell ⟨b4, 3, none⟩ (.int .i64 (n1 : Int))).setCell ⟨b4, 4, none⟩ (.slice np nn nc)).setCell ⟨b4, 5, none⟩ (.slice (some ⟨kb, 0, none⟩) 1 1))) hF rfl rfl (fun a' hA => wanted_none rfl) (fun a' hA => ?_) ?_)
          · have e4 := hA.get 4 rfl
            have e25 := hA.get 25 rfl
            have qq := Lib.cell_of_heap hb4
            have q0 := qq 0
            have q1 := qq 1
            have q2 := qq 2
            have q3 := qq 3
            have q4 := qq 4
            have q5 := qq 5
            simp only [List.getElem?_toArray, List.getElem?_cons_zero, List.getElem?_cons_succ] at q0 q1 q2 q3 q4 q5
            have fz : ∀ i, w7.frozen? ⟨b4, i, none⟩ = false := fun i => by simp [World.frozen?, hb4]
            have f0 := fz 0
            have f1 := fz 1
            have f2 := fz 2
            have f3 := fz 3
            have f4 := fz 4
            have f5 := fz 5
            clear hA hF
            generalize a'.eval = ρ at *
            simp [go_sem, e4, e25, q0, q1, q2, q3, q4, q5, f0, f1, f2, f3, f4, f5]
          refine ⟨fun h => absurd h (by decide), ?_⟩
          refine wpTill_done (by kernel_rfl) ?_ _
          have hkb := HKB.out
          have hown1 : w7.ownsRow (w.heap.size + 1) 26 6 (.slice (some ⟨kb, 0, none⟩) 1 1) [Br.mk ⟨yk, ym, yf, yt, ynp, ynn, ync, yns, ykp, ykn, ykc⟩ yks].length (cellsK [Br.mk ⟨yk, ym, yf, yt, ynp, ynn, ync, yns, ykp, ykn, ykc⟩ yks]) := own_lit ((hb7.block _ (Array.getElem?_eq_some_iff.1 hkb.1).1).trans hkb.1) hkb.2.1 rfl (by unfold maxLen; omega)
          have hkids1 : Kids (w.heap.size + 1) (.slice (some ⟨kb, 0, none⟩) 1 1) w7 [Br.mk ⟨yk, ym, yf, yt, ynp, ynn, ync, yns, ykp, ykn, ykc⟩ yks] := fun z hz => by
            obtain rfl := List.mem_singleton.1 hz
            exact ⟨HY6.out.1.step _ hb7, HY6.out.2.mono (fun q hq => ⟨hq.1, fun e => hq.2.2 (Option.some.inj (show some q = some (kb) from e))⟩) _⟩
          have HL := node_lies (w0 := w) (w1 := w) 42 0 n n1 (ownsRow_below HV6.out hb7) hown1 hkids1
          have hon : Br.On (fun q => w.heap.size + 1 ≤ q ∧ q ≠ b4) (.mk ⟨42, 0, n, n1, np, nn, nc, p.map (fun x : Nat => (x : Int)), some ⟨kb, 0, none⟩, 1, 1⟩ [Br.mk ⟨yk, ym, yf, yt, ynp, ynn, ync, yns, ykp, ykn, ykc⟩ yks]) := by
            rw [on_iff]
            refine ⟨fun q _ hq => ⟨?_, HNB.out q (by simpa [Br.h] using hq)⟩, fun q _ hq => ?_, fun z hz => ?_⟩
            · simp only [Br.h] at hq; subst hq; exact (HV6.out.lt _ rfl).1
            · simp only [Br.h, Option.some.injEq] at hq; subst hq; exact ⟨hkb.2.1, hkb.2.2⟩
            · simp only [Br.ks, List.mem_singleton] at hz; subst hz; exact HY6.out.2.mono (fun q hq => ⟨hq.1, hq.2.1⟩) _
          have hlies : Br.Lies ((((((w7.setCell ⟨b4, 0, none⟩ (.int .i64 42)).setCell ⟨b4, 1, none⟩ (.int .i64 0)).setCell ⟨b4, 2, none⟩ (.int .i64 (n : Int))).setCell ⟨b4, 3, none⟩ (.int .i64 (n1 : Int))).setCell ⟨b4, 4, none⟩ (.slice np nn nc)).setCell ⟨b4, 5, none⟩ (.slice (some ⟨kb, 0, none⟩) 1 1)) (.mk ⟨42, 0, n, n1, np, nn, nc, p.map (fun x : Nat => (x : Int)), some ⟨kb, 0, none⟩, 1, 1⟩ [Br.mk ⟨yk, ym, yf, yt, ynp, ynn, ync, yns, ykp, ykn, ykc⟩ yks]) :=
            Br.Lies.kept (P := fun q => w.heap.size + 1 ≤ q ∧ q ≠ b4) _ hgs.size (fun q hq hlt => hgs.block q hlt (fun e => hq.2 (Option.some.inj e))) hon HL.1
          have HFR := Lib.hid (And.intro hsix (And.intro hlies (And.intro hon (And.intro ((HR6.out.step hb7).grow hgs (fun e => by have := Option.some.inj e; omega) (fun e => by have := Option.some.inj e; omega)) (And.intro (Array.getElem?_eq_some_iff.1 hsix).1 (grown_own (grown_trans HG6.out (grown_below hb7 _)) hgs (fun q hq => by have := Option.some.inj hq; simp; omega)))))))
          subst ha0
          simp only [Act.put, List.setIfInBounds_toArray, List.set_cons_zero, List.set_cons_succ]
          clear hF hsix hgs hb4 hB6 hkb hown1 hkids1 HL hon hlies hb7 hS
          generalize ((((((w7.setCell ⟨b4, 0, none⟩ (.int .i64 42)).setCell ⟨b4, 1, none⟩ (.int .i64 0)).setCell ⟨b4, 2, none⟩ (.int .i64 (n : Int))).setCell ⟨b4, 3, none⟩ (.int .i64 (n1 : Int))).setCell ⟨b4, 4, none⟩ (.slice np nn nc)).setCell ⟨b4, 5, none⟩ (.slice (some ⟨kb, 0, none⟩) 1 1)) = w8 at *
          go_wp2_with fail
          go_roundg gk
          case measure => omega
          case rel => exact ⟨.mk ⟨42, 0, n, n1, np, nn, nc, p.map (fun x : Nat => (x : Int)), some ⟨kb, 0, none⟩, 1, 1⟩ [Br.mk ⟨yk, ym, yf, yt, ynp, ynn, ync, yns, ykp, ykn, ykc⟩ yks], n1, Lib.hid (by rw [HEQ.out, HPO.out]; simp [bind_ok, Br.pb, pbs, node]), Lib.hid HFR.out.1, Lib.hid HFR.out.2.1, Lib.hid HFR.out.2.2.1, Lib.hid HFR.out.2.2.2.1, Lib.hid HFR.out.2.2.2.2.1, HFR.out.2.2.2.2.2⟩
        · refine make_op 5 (oi := { dst := some 24, op := Op.buildSlice 24 1 #[(0, Operand.tmp 23)], type := 24, pos := "terms.go:179", after := #[{ on := 4, ground := Ground.data }], guard := none }) (d := 24) (v := .slice (some ⟨wr.heap.size, 0, none⟩) 1 1) (w' := wr.drew.alloc (.cells #[.int .i64 yk, .int .i64 ym, .int .i64 yf, .int .i64 yt, .slice ynp ynn ync, .slice ykp ykn ykc] 26)) hF rfl rfl (by decide) (fun a' hA => wanted_none rfl) (fun a' hA => by have e23 := hA.get 23 rfl; have ec : ∀ v, a'.eval (.const v) = v := fun _ => rfl; clear hA; generalize a'.eval = ρ at *; simp [go_sem, ec, e23]; try rfl) ?_
          clear hF
          intro hF
          have hB5 : Below wr.heap.size wr (wr.drew.alloc (.cells #[.int .i64 yk, .int .i64 ym, .int .i64 yf, .int .i64 yt, .slice ynp ynn ync, .slice ykp ykn ykc] 26)) := (Below.refl wr.heap.size wr).drew.alloc (Nat.le_refl _) _
          have hK5 : (wr.drew.alloc (.cells #[.int .i64 yk, .int .i64 ym, .int .i64 yf, .int .i64 yt, .slice ynp ynn ync, .slice ykp ykn ykc] 26)).heap[wr.heap.size]? = some (.cells #[.int .i64 yk, .int .i64 ym, .int .i64 yf, .int .i64 yt, .slice ynp ynn ync, .slice ykp ykn ykc] 26 (0, 0)) := heap_alloc_new wr.drew (.cells #[.int .i64 yk, .int .i64 ym, .int .i64 yf, .int .i64 yt, .slice ynp ynn ync, .slice ykp ykn ykc] 26)
          have hX5 : (wr.drew.alloc (.cells #[.int .i64 yk, .int .i64 ym, .int .i64 yf, .int .i64 yt, .slice ynp ynn ync, .slice ykp ykn ykc] 26)).heap[b4]? = some (.cells #[.int .i64 yk, .int .i64 ym, .int .i64 yf, .int .i64 yt, .slice ynp ynn ync, .slice ykp ykn ykc] 26 (0, 0)) := (hB5.block b4 HBS.out).trans HBX.out
          have hz5 : (wr.drew.alloc (.cells #[.int .i64 yk, .int .i64 ym, .int .i64 yf, .int .i64 yt, .slice ynp ynn ync, .slice ykp ykn ykc] 26)).heap.size = wr.heap.size + 1 := by simp
          refine ⟨fun _ => hX5, ?_⟩
          have HR5 := Lib.hid (HR.out.step hB5)
          generalize wr.drew.alloc (.cells #[.int .i64 yk, .int .i64 ym, .int .i64 yf, .int .i64 yt, .slice ynp ynn ync, .slice ykp ykn ykc] 26) = w5 at *
          refine wpTill_alone 3 (by kernel_rfl) (call_op 3 (oi := { dst := some 22, op := Op.call { callee := Callee.value (Operand.func 75), args := #[Operand.tmp 21], argTypes := #[56] }, type := 23, pos := "terms.go:179", after := #[{ on := 2, ground := Ground.data }], guard := none }) (d := 22) (R := fun e w' => Ends S d w5 (S.typePath i) (RL w5) e w') hF rfl rfl (by decide) (fun a' hA => wanted_none rfl) (fun a' hA => by have e21 := hA.get 21 rfl; have ef : ∀ f, a'.eval (.func f) = .func (.func f) #[] #[] := fun _ => rfl; have ec : ∀ v, a'.eval (.const v) = v := fun _ => rfl; clear hA; generalize a'.eval = ρ at *; simp [go_sem, ef, ec, e21]) (rtypePath_any S i d w5 HR5.out (bind_dry (by rw [← HEQ.out]; exact HDRY.out))) (fun w' => Ends.noOut) ?_ ?_)
          · rintro ch w' (⟨_, _, _, _, h2, _⟩ | ⟨ch', ho, h2, hg⟩)
            · cases h2
            · have h2 := Ending.panicked.inj h2
              subst h2
              have hq : bodyPost Tryz.prog Tryz.f76 (fun e w' => Ends S d w tot (RB w) e w') (.panic ch) _ w' := ⟨hF.2.1, Or.inr ⟨ch, by rw [HEQ.out]; exact pan_bind ho, rfl, grown_trans (grown_below ((Below.refl _ _).alloc (Nat.le_refl _) _) _) (grown_trans (grown_trans HGR.out (grown_below hB5 _)) hg)⟩⟩
              exact hq
          rintro v w6 (⟨p, n1, v', hpo, h2, hv, hr6, hg6⟩ | ⟨_, _, h2, _⟩) hF2
          rotate_left
          · cases h2
          have h2 := Ending.returned.inj h2
          subst h2
          obtain ⟨np, nn, nc, rfl⟩ := hv.form
          have hF := hF2
          clear hF2
          have hB6 : w6.heap[b4]? = some (.cells #[.int .i64 yk, .int .i64 ym, .int .i64 yf, .int .i64 yt, .slice ynp ynn ync, .slice ykp ykn ykc] 26 (0, 0)) := (hg6.block b4 (by have := HBS.out; omega) (fun e => hb4g (Option.some.inj e))).trans hX5
          refine ⟨fun _ => hB6, ?_⟩
          have hs6 : w5.heap.size ≤ w6.heap.size := hg6.size
          have HKB : Hid (w6.heap[wr.heap.size]? = some (.cells #[.int .i64 yk, .int .i64 ym, .int .i64 yf, .int .i64 yt, .slice ynp ynn ync, .slice ykp ykn ykc] 26 (0, 0)) ∧ w.heap.size + 1 ≤ wr.heap.size ∧ wr.heap.size ≠ b4) := Lib.hid ⟨(hg6.block wr.heap.size (by omega) (fun e => by have := Option.some.inj e; omega)).trans hK5, by omega, by have := HBS.out; omega⟩
          have HV6 := Lib.hid (own_base (base' := w.heap.size + 1) hv (by omega))
          have HNB : Hid (∀ q, np = some q → q.block ≠ b4) := Lib.hid (fun q hq => by subst hq; have h1 := (hv.lt _ rfl).1; have h3 := HBS.out; omega)
          have HR6 := Lib.hid hr6
          have HG6 := Lib.hid (grown_trans (grown_trans HGR.out (grown_below hB5 _)) hg6)
          have hyl5 : Br.Lies w6 (Br.mk ⟨yk, ym, yf, yt, ynp, ynn, ync, yns, ykp, ykn, ykc⟩ yks) := Br.Lies.kept (P := fun q => w.heap.size + 1 ≤ q ∧ q ≠ b4) _ hs6 (fun q hq hlt => hg6.block q hlt (fun e => by have := Option.some.inj e; omega)) HYO.out (HYL.out.step _ hB5)
          have HY6 : Hid (Br.Lies w6 (Br.mk ⟨yk, ym, yf, yt, ynp, ynn, ync, yns, ykp, ykn, ykc⟩ yks) ∧ Br.On (fun q => w.heap.size + 1 ≤ q ∧ q ≠ b4 ∧ q ≠ wr.heap.size) (Br.mk ⟨yk, ym, yf, yt, ynp, ynn, ync, yns, ykp, ykn, ykc⟩ yks)) := Lib.hid ⟨hyl5, (Br.On.low _ HYO.out HYL.out).mono (fun q hq => ⟨hq.1.1, hq.1.2, by have := hq.2; omega⟩) _⟩
          have HPO := Lib.hid hpo
          generalize hkb : wr.heap.size = kb at *
          clear hkb hv hr6 hg6 hpo hyl5 hB5 hX5 hK5 hz5 hS
          have hS : True := trivial
          refine call_fp 6 (oi := { dst := some 25, op := Op.call { callee := Callee.value (Operand.func 38), args := #[Operand.tmp 19, Operand.const (Value.int IntKind.i64 42), Operand.tmp 20, Operand.tmp 22, Operand.tmp 24], argTypes := #[56, 3, 3, 23, 24] }, type := 26, pos := "terms.go:179", after := #[{ on := 0, ground := Ground.data }, { on := 1, ground := Ground.data }, { on := 3, ground := Ground.data }, { on := 5, ground := Ground.data }, { on := 3, ground := Ground.chain }], guard := none }) (d := 25) (R := fun e w' => e = .returned (.agg #[.int .i64 42, .int .i64 0, .int .i64 (n : Int), .int .i64 (n1 : Int), .slice np nn nc, .slice (some ⟨kb, 0, none⟩) 1 1]) ∧ Below w6.heap.size w6 w') hF rfl rfl (by decide) (by kernel_rfl) (fun a' hA => wanted_none rfl) (fun a' hA => by have e19 := hA.get 19 rfl; have e20 := hA.get 20 rfl; have e22 := hA.get 22 rfl; have e24 := hA.get 24 rfl; have ef : ∀ f, a'.eval (.func f) = .func (.func f) #[] #[] := fun _ => rfl; have ec : ∀ v, a'.eval (.const v) = v := fun _ => rfl; clear hA; generalize a'.eval = ρ at *; simp [go_sem, ef, ec, e19, e20, e22, e24]) (rbranch_any S n1 d 42 n np nn nc (some ⟨kb, 0, none⟩) 1 1 w6 HR6.out) (by rintro w' ⟨h, _⟩; cases h) ?_ ?_
          · rintro ch w' ⟨h, _⟩
            cases h
          rintro v w7 ⟨h, hb7⟩
          have h := Ending.returned.inj h
          subst h
          refine ⟨fun h => absurd h (by decide), ?_⟩
          clear hF
          intro hF
          have hb4 := (hb7.block b4 (Array.getElem?_eq_some_iff.1 hB6).1).trans hB6
          obtain ⟨hsix, hgs⟩ := six_set hb4 (.int .i64 42) (.int .i64 0) (.int .i64 (n : Int)) (.int .i64 (n1 : Int)) (.slice np nn nc) (.slice (some ⟨kb, 0, none⟩) 1 1)
          refine wpTill_alone 7 (by kernel_rfl) (store_op 7 (oi := { dst := none, op := Op.store 26 (Operand.tmp 4) (Operand.tmp 25), type := 0, pos := "terms.go:179", after := #[{ on := 6, ground := Ground.data }, { on := 6, ground := Ground.chain }, { on := 0, ground := Ground.phase }, { on := 1, ground := Ground.phase }, { on := 2, ground := Ground.phase }, { on := 3, ground := Ground.phase }, { on := 4, ground := Ground.phase }, { on := 5, ground := Ground.phase }, { on := 6, ground := Ground.phase }], guard := none }) (w' := ((((((w7.setCell ⟨b4, 0, none⟩ (.int .i64 42)).setCell ⟨b4, 1, none⟩ (.int .i64 0)).setCell ⟨b4, 2, none⟩ (.int .i64 (n : Int))).setCell ⟨b4, 3, none⟩ (.int .i64 (n1 : Int))).setCell ⟨b4, 4, none⟩ (.slice np nn nc)).setCell ⟨b4, 5, none⟩ (.slice (some ⟨kb, 0, none⟩) 1 1))) hF rfl rfl (fun a' hA => wanted_none rfl) (fun a' hA => ?_) ?_)
          · have e4 := hA.get 4 rfl
            have e25 := hA.get 25 rfl
            have qq := Lib.cell_of_heap hb4
            have q0 := qq 0
            have q1 := qq 1
            have q2 := qq 2
            have q3 := qq 3
            have q4 := qq 4
            have q5 := qq 5
            simp only [List.getElem?_toArray, List.getElem?_cons_zero, List.getElem?_cons_succ] at q0 q1 q2 q3 q4 q5
            have fz : ∀ i, w7.frozen? ⟨b4, i, none⟩ = false := fun i => by simp [World.frozen?, hb4]
            have f0 := fz 0
            have f1 := fz 1
            have f2 := fz 2
            have f3 := fz 3
            have f4 := fz 4
            have f5 := fz 5
            clear hA hF
            generalize a'.eval = ρ at *
            simp [go_sem, e4, e25, q0, q1, q2, q3, q4, q5, f0, f1, f2, f3, f4, f5]
          refine ⟨fun h => absurd h (by decide), ?_⟩
          refine wpTill_done (by kernel_rfl) ?_ _
          have hkb := HKB.out
          have hown1 : w7.ownsRow (w.heap.size + 1) 26 6 (.slice (some ⟨kb, 0, none⟩) 1 1) [Br.mk ⟨yk, ym, yf, yt, ynp, ynn, ync, yns, ykp, ykn, ykc⟩ yks].length (cellsK [Br.mk ⟨yk, ym, yf, yt, ynp, ynn, ync, yns, ykp, ykn, ykc⟩ yks]) := own_lit ((hb7.block _ (Array.getElem?_eq_some_iff.1 hkb.1).1).trans hkb.1) hkb.2.1 rfl (by unfold maxLen; omega)
          have hkids1 : Kids (w.heap.size + 1) (.slice (some ⟨kb, 0, none⟩) 1 1) w7 [Br.mk ⟨yk, ym, yf, yt, ynp, ynn, ync, yns, ykp, ykn, ykc⟩ yks] := fun z hz => by
            obtain rfl := List.mem_singleton.1 hz
            exact ⟨HY6.out.1.step _ hb7, HY6.out.2.mono (fun q hq => ⟨hq.1, fun e => hq.2.2 (Option.some.inj (show some q = some (kb) from e))⟩) _⟩
          have HL := node_lies (w0 := w) (w1 := w) 42 0 n n1 (ownsRow_below HV6.out hb7) hown1 hkids1
          have hon : Br.On (fun q => w.heap.size + 1 ≤ q ∧ q ≠ b4) (.mk ⟨42, 0, n, n1, np, nn, nc, p.map (fun x : Nat => (x : Int)), some ⟨kb, 0, none⟩, 1, 1⟩ [Br.mk ⟨yk, ym, yf, yt, ynp, ynn, ync, yns, ykp, ykn, ykc⟩ yks]) := by
            rw [on_iff]
            refine ⟨fun q _ hq => ⟨?_, HNB.out q (by simpa [Br.h] using hq)⟩, fun q _ hq => ?_, fun z hz => ?_⟩
            · simp only [Br.h] at hq; subst hq; exact (HV6.out.lt _ rfl).1
            · simp only [Br.h, Option.some.injEq] at hq; subst hq; exact ⟨hkb.2.1, hkb.2.2⟩
            · simp only [Br.ks, List.mem_singleton] at hz; subst hz; exact HY6.out.2.mono (fun q hq => ⟨hq.1, hq.2.1⟩) _
          have hlies : Br.Lies ((((((w7.setCell ⟨b4, 0, none⟩ (.int .i64 42)).setCell ⟨b4, 1, none⟩ (.int .i64 0)).setCell ⟨b4, 2, none⟩ (.int .i64 (n : Int))).setCell ⟨b4, 3, none⟩ (.int .i64 (n1 : Int))).setCell ⟨b4, 4, none⟩ (.slice np nn nc)).setCell ⟨b4, 5, none⟩ (.slice (some ⟨kb, 0, none⟩) 1 1)) (.mk ⟨42, 0, n, n1, np, nn, nc, p.map (fun x : Nat => (x : Int)), some ⟨kb, 0, none⟩, 1, 1⟩ [Br.mk ⟨yk, ym, yf, yt, ynp, ynn, ync, yns, ykp, ykn, ykc⟩ yks]) :=
            Br.Lies.kept (P := fun q => w.heap.size + 1 ≤ q ∧ q ≠ b4) _ hgs.size (fun q hq hlt => hgs.block q hlt (fun e => hq.2 (Option.some.inj e))) hon HL.1
          have HFR := Lib.hid (And.intro hsix (And.intro hlies (And.intro hon (And.intro ((HR6.out.step hb7).grow hgs (fun e => by have := Option.some.inj e; omega) (fun e => by have := Option.some.inj e; omega)) (And.intro (Array.getElem?_eq_some_iff.1 hsix).1 (grown_own (grown_trans HG6.out (grown_below hb7 _)) hgs (fun q hq => by have := Option.some.inj hq; simp; omega)))))))
          subst ha0
          simp only [Act.put, List.setIfInBounds_toArray, List.set_cons_zero, List.set_cons_succ]
          clear hF hsix hgs hb4 hB6 hkb hown1 hkids1 HL hon hlies hb7 hS
          generalize ((((((w7.setCell ⟨b4, 0, none⟩ (.int .i64 42)).setCell ⟨b4, 1, none⟩ (.int .i64 0)).setCell ⟨b4, 2, none⟩ (.int .i64 (n : Int))).setCell ⟨b4, 3, none⟩ (.int .i64 (n1 : Int))).setCell ⟨b4, 4, none⟩ (.slice np nn nc)).setCell ⟨b4, 5, none⟩ (.slice (some ⟨kb, 0, none⟩) 1 1)) = w8 at *
          go_wp2_with fail
          go_roundg gk
          case measure => omega
          case rel => exact ⟨.mk ⟨42, 0, n, n1, np, nn, nc, p.map (fun x : Nat => (x : Int)), some ⟨kb, 0, none⟩, 1, 1⟩ [Br.mk ⟨yk, ym, yf, yt, ynp, ynn, ync, yns, ykp, ykn, ykc⟩ yks], n1, Lib.hid (by rw [HEQ.out, HPO.out]; simp [bind_ok, Br.pb, pbs, node]), Lib.hid HFR.out.1, Lib.hid HFR.out.2.1, Lib.hid HFR.out.2.2.1, Lib.hid HFR.out.2.2.2.1, Lib.hid HFR.out.2.2.2.2.1, HFR.out.2.2.2.2.2⟩
  · exact ⟨rfl, Or.inr ⟨ch, by rw [HTOT.out]; exact pan_bind ho, rfl, grown_trans (grown_below ((Below.refl _ _).alloc (Nat.le_refl _) _) _) hg2⟩⟩
end Go.Proofs.YtkjgkchdkeggoaaGreatDoor
