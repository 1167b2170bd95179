/-
  The reader's sig: what lies within one part.
-/
import Derived.Test.YtkjgkchdkeggoaaGreatDoorBareSig
import Derived.Test.YtkjgkchdkeggoaaGreatDoorKeep
namespace Go.Proofs.YtkjgkchdkeggoaaGreatDoor
open Go.RowKit
set_option maxRecDepth 20000
set_option linter.unusedVariables false
set_option linter.unusedSimpArgs false

set_option maxHeartbeats 1000000 in
theorem sigC_any (S : Src) (F : Nat) (rec : Nt → Nat → Nat → Out Pb) (d : Nat) (hs : Said S rec d) (hF0 : F ≤ 1000000000) (bx : Nat) (n : Nat) (w : World) (h : Rd w S n d) (hx0 : w.heap[bx]? = some (.cells #[.pointer (some ⟨S.g, 0, none⟩)] 56 (0, 0))) (hg0 : bx ≠ S.g) (hdry : sigO S F rec d n ≠ .dry) :
    Calls Tryz.prog 73 #[.int .i64 (n : Int), .pointer (some ⟨bx, 0, none⟩)] w fun e w' => Ends S d w (sigO S F rec d n) (RB w) e w' := by
  have hgl := h.lt
  have hgwl := h.row
  have hbd := h.bound
  have ST0 := Lib.hid (St.init h [(bx, Obj.cells #[.pointer (some ⟨S.g, 0, none⟩)] 56 (0, 0))] (fun p hp => by
    obtain rfl := List.mem_singleton.1 hp
    exact ⟨hx0, hg0⟩))
  have HS := Lib.hid hs
  obtain ⟨tot, htot⟩ : ∃ tot, tot = sigO S F rec d n := ⟨_, rfl⟩
  have HD : Hid (tot ≠ .dry) := Lib.hid (by rw [htot]; exact hdry)
  rw [← htot]
  unfold sigO at htot
  have EQ0 := Lib.hid htot
  clear h hdry htot hs hx0 hg0
  go_enter Tryz.func73, Tryz.ntmps73
  have qx0 := ST0.out.xc (b := bx) (v := .pointer (some ⟨S.g, 0, none⟩)) (T := 56) (by simp)
  have HC := Lib.hid (bareSig_any S F rec d HS.out hF0 ((n)) _ ST0.out.rd (bind_dry (by rw [← EQ0.out]; exact HD.out)))
  go_wp2_with fail
  refine HC.out.mono ?_
  rintro e w2 (⟨x2, n2, v2, hpo, rfl, ⟨y2, hv, hyl, hyo, rfl⟩, hr, hg⟩ | ⟨ch, ho, rfl, hg⟩)
  rotate_left
  · exact ⟨rfl, Or.inr ⟨ch, by rw [EQ0.out]; exact pan_bind (ho), rfl, ST0.out.pan hg⟩⟩
  have e3 := EQ0.out
  rw [show _ = Out.ok _ _ from hpo, bind_ok] at e3
  have EQ3 := Lib.hid e3
  clear e3 EQ0
  have HY2 := Lib.hid (And.intro hyl (hyo.mono (fun q hq => Nat.le_trans ST0.out.size hq) _))
  simp only [Hd.val] at hv
  subst hv
  have ST4 := Lib.hid (ST0.out.grow hr hg)
  clear hr hg ST0 hyl hyo hpo HC
  clear qx0
  have qx0 := ST4.out.xc (b := bx) (v := .pointer (some ⟨S.g, 0, none⟩)) (T := 56) (by simp)
  have HA : Hid (Br.On (fun q => q ≠ w2.heap.size) y2) := Lib.hid (on_below HY2.out.1)
  have hbx := ST4.out.box HY2.out.1 HY2.out.2
  have hsz := ST4.out.size
  have hlt := ST4.out.lt
  have hn1 : ¬ S.g = w2.heap.size := by omega
  have hn2 : ¬ w2.heap.size = S.g := by omega
  have hrb := heap_alloc_new w2 boxZ
  have qq := Lib.cell_of_heap hrb
  have r0 := qq 0
  have r1 := qq 1
  have r2 := qq 2
  have r3 := qq 3
  have r4 := qq 4
  have r5 := qq 5
  simp only [List.getElem?_toArray, List.getElem?_cons_zero, List.getElem?_cons_succ, boxZ] at r0 r1 r2 r3 r4 r5
  have fz : ∀ i, (w2.alloc boxZ).frozen? ⟨w2.heap.size, i, none⟩ = false := fun i => cells_frozen hrb i
  have f0 := fz 0
  have f1 := fz 1
  have f2 := fz 2
  have f3 := fz 3
  have f4 := fz 4
  have f5 := fz 5
  have hm0 : ¬ bx = w2.heap.size := by have := ST4.out.xlt (b := bx) (v := .pointer (some ⟨S.g, 0, none⟩)) (T := 56) (by simp); omega
  have hw0 : ¬ w2.heap.size = bx := fun e => hm0 e.symm
  have qa0 := (ST4.out.below ((Below.refl w2.heap.size w2).alloc (Nat.le_refl _) boxZ)).xc (b := bx) (v := .pointer (some ⟨S.g, 0, none⟩)) (T := 56) (by simp)
  have qb0 := hbx.xc (b := bx) (v := .pointer (some ⟨S.g, 0, none⟩)) (T := 56) (by simp)
  have STx := Lib.hid hbx
  clear hbx hrb qq fz hsz hlt ST4 qx0 HY2
  rename_i K1 hK1 K0 hK0
  show K0 _ _
  refine hK0 _ _ ?_
  refine wpList_step fun K2 hK2 => ?_
  rw [if_pos (wanted_none rfl)]
  unfold Oper.wp
  have hrun : ∀ a : Act, (execOp a.eval { dst := some 4, op := Op.alloc 26, type := 0, pos := "modules.go:37", after := #[], guard := none }).run Tryz.prog w2 = .ok (.value (.pointer (some ⟨w2.heap.size, 0, none⟩))) (w2.alloc boxZ) := fun a => by
    generalize a.eval = ρ
    simp [go_sem]
    try rfl
  rw [hrun, Oper.upon_value]
  refine hK2 _ _ ?_
  clear hrun hK2 hK0
  simp only [Act.put, List.setIfInBounds_toArray, List.set_cons_zero, List.set_cons_succ] at *
  generalize hb5 : w2.heap.size = b5 at *
  generalize w2.alloc boxZ = A5 at *
  clear hb5
  clear hn1 hn2
  go_wp2_with fail
  go_loopg [] F (fun gk wr => ∃ (y : Br) (i : Nat), Hid (tot = whereL S rec d n gk y.pb i) ∧ Hid (St S (w.alloc boxZ) d ⟨[(bx, Obj.cells #[.pointer (some ⟨S.g, 0, none⟩)] 56 (0, 0))], [(b5, y)], [], []⟩ wr i) ∧ Hid (Br.On (fun q => q ≠ b5) y))
  case atStart => exact ⟨y2, n2, EQ3, STx, HA⟩
  case round =>
    obtain ⟨y, i, HL, STr, HAr⟩ := hrel
    cases gk with
    | zero => exact absurd HL.out (by intro e; exact HD.out e)
    | succ gk =>
    have hls := HL.out
    simp only [whereL] at hls
    have EQr := Lib.hid hls
    clear hls HL
    cases hw : S.is i [119, 104, 101, 114, 101]
    · have e6 := EQr.out
      simp only [hw, cond_false] at e6
      have EQ6 := Lib.hid e6
      clear e6 EQr
      have qx0 := STr.out.xc (b := bx) (v := .pointer (some ⟨S.g, 0, none⟩)) (T := 56) (by simp)
      have HP := Lib.hid (rpass_any S (i) d ⟨#[119, 104, 101, 114, 101]⟩ _ STr.out.rd (by simp))
      simp only [hw, cond_true, cond_false] at HP
      go_wp2_with fail
      refine HP.out.mono ?_
      rintro e w7 ⟨rfl, hr, hg⟩
      have ST8 := Lib.hid (STr.out.grow hr hg)
      clear hr hg STr HP
      clear qx0
      have qx0 := ST8.out.xc (b := bx) (v := .pointer (some ⟨S.g, 0, none⟩)) (T := 56) (by simp)
      have qq := Lib.cell_of_heap (ST8.out.b (b5, y) (by simp)).1
      have l00 := qq 0
      have l01 := qq 1
      have l02 := qq 2
      have l03 := qq 3
      have l04 := qq 4
      have l05 := qq 5
      simp only [List.getElem?_toArray, List.getElem?_cons_zero, List.getElem?_cons_succ] at l00 l01 l02 l03 l04 l05
      clear qq
      have HYb := Lib.hid (ST8.out.b (b5, y) (by simp)).2.2
      have FIN := Lib.hid (ST8.out.finY hgl hgwl HYb.out.1 HYb.out.2 EQ6.out)
      clear ST8 EQ6 HYb qx0
      have c0 := FIN.out.c0
      have c1 := FIN.out.c1
      have c2 := FIN.out.c2
      have c3 := FIN.out.c3
      have c4 := FIN.out.c4
      have c5 := FIN.out.c5
      have f0 := FIN.out.fz 0
      have f1 := FIN.out.fz 1
      have f2 := FIN.out.fz 2
      have f3 := FIN.out.fz 3
      have f4 := FIN.out.fz 4
      have f5 := FIN.out.fz 5
      go_wp2_with fail
      obtain ⟨_, _, _, _, _, _, _, d0, d1, d2, d3, d4, d5, hfin⟩ := FIN.out
      refine bodyPost_ret (by simp [results, Tryz.results73, go_sem, d0, d1, d2, d3, d4, d5, Result.andThen]; try rfl) rfl ?_
      exact hfin
    · have e6 := EQr.out
      simp only [hw, cond_true] at e6
      have EQ6 := Lib.hid e6
      clear e6 EQr
      have qx0 := STr.out.xc (b := bx) (v := .pointer (some ⟨S.g, 0, none⟩)) (T := 56) (by simp)
      have HP := Lib.hid (rpass_any S (i) d ⟨#[119, 104, 101, 114, 101]⟩ _ STr.out.rd (by simp))
      simp only [hw, cond_true, cond_false] at HP
      go_wp2_with fail
      refine HP.out.mono ?_
      rintro e w7 ⟨rfl, hr, hg⟩
      have ST8 := Lib.hid (STr.out.grow hr hg)
      clear hr hg STr HP
      clear qx0
      have qx0 := ST8.out.xc (b := bx) (v := .pointer (some ⟨S.g, 0, none⟩)) (T := 56) (by simp)
      have HC := Lib.hid (rneed_any S ((i + 1)) d ⟨#[116, 121, 112, 101]⟩ _ ST8.out.rd (by simp))
      go_wp2_with fail
      refine HC.out.mono ?_
      rintro e w9 (⟨x9, n9, v9, hpo, rfl, hv, hr, hg⟩ | ⟨ch, ho, rfl, hg⟩)
      rotate_left
      · exact ⟨rfl, Or.inr ⟨ch, by rw [EQ6.out]; exact pan_bind (ho), rfl, ST8.out.pan hg⟩⟩
      have e10 := EQ6.out
      rw [show _ = Out.ok _ _ from hpo, bind_ok] at e10
      have EQ10 := Lib.hid e10
      clear e10 EQ6
      obtain rfl : v9 = .tuple #[] := hv
      have ST11 := Lib.hid (ST8.out.grow hr hg)
      clear hr hg ST8 hpo HC
      clear qx0
      have qx0 := ST11.out.xc (b := bx) (v := .pointer (some ⟨S.g, 0, none⟩)) (T := 56) (by simp)
      have HC := Lib.hid (rtypePath_any S ((n9)) d _ ST11.out.rd (bind_dry (by rw [← EQ10.out]; exact HD.out)))
      go_wp2_with fail
      refine HC.out.mono ?_
      rintro e w12 (⟨x12, n12, v12, hpo, rfl, hv, hr, hg⟩ | ⟨ch, ho, rfl, hg⟩)
      rotate_left
      · exact ⟨rfl, Or.inr ⟨ch, by rw [EQ10.out]; exact pan_bind (ho), rfl, ST11.out.pan hg⟩⟩
      have e13 := EQ10.out
      rw [show _ = Out.ok _ _ from hpo, bind_ok] at e13
      have EQ13 := Lib.hid e13
      clear e13 EQ10
      have hz := ST11.out.size
      obtain ⟨p12, l12, cp12, rfl⟩ := hv.form
      have ho := own_base hv hz
      have ST14 := Lib.hid ((ST11.out.grow hr hg).addN ho)
      clear hr hg ST11 hv ho hz hpo HC
      clear qx0
      have qx0 := ST14.out.xc (b := bx) (v := .pointer (some ⟨S.g, 0, none⟩)) (T := 56) (by simp)
      have HC := Lib.hid (rneed_any S ((n12)) d ⟨#[61]⟩ _ ST14.out.rd (by simp))
      go_wp2_with fail
      refine HC.out.mono ?_
      rintro e w15 (⟨x15, n15, v15, hpo, rfl, hv, hr, hg⟩ | ⟨ch, ho, rfl, hg⟩)
      rotate_left
      · exact ⟨rfl, Or.inr ⟨ch, by rw [EQ13.out]; exact pan_bind (ho), rfl, ST14.out.pan hg⟩⟩
      have e16 := EQ13.out
      rw [show _ = Out.ok _ _ from hpo, bind_ok] at e16
      have EQ16 := Lib.hid e16
      clear e16 EQ13
      obtain rfl : v15 = .tuple #[] := hv
      have ST17 := Lib.hid (ST14.out.grow hr hg)
      clear hr hg ST14 hpo HC
      clear qx0
      have qx0 := ST17.out.xc (b := bx) (v := .pointer (some ⟨S.g, 0, none⟩)) (T := 56) (by simp)
      go_wp2_with fail
      refine wp_region_till (fun W : World => W.heap[bx]? = some (.cells #[.pointer (some ⟨S.g, 0, none⟩)] 56 (0, 0)) ∧ W.heap[b5]? = some (.cells #[.int .i64 y.h.k, .int .i64 y.h.m, .int .i64 y.h.f, .int .i64 y.h.t, .slice y.h.np y.h.nn y.h.nc, .slice y.h.kp y.h.kn y.h.kc] 26 (0, 0))) 8 (by kernel_rfl) ?_
      have STd := Lib.hid (ST17.out.below (Below.refl w15.heap.size w15).drew)
      refine start_fp (N := 25) [(0, .int .i64 (n : Int)), (1, .pointer (some ⟨bx, 0, none⟩)), (3, .pointer (some ⟨w.heap.size, 0, none⟩)), (4, .pointer (some ⟨b5, 0, none⟩)), (5, .slice p12 l12 cp12)] (Fs.of rfl rfl (by simp [Act.eval])) ?_
      intro a0 ha0 hF
      clear ST17 qx0
      generalize w15.drew = w18 at *
      have hS : (fun W : World => W.heap[bx]? = some (.cells #[.pointer (some ⟨S.g, 0, none⟩)] 56 (0, 0)) ∧ W.heap[b5]? = some (.cells #[.int .i64 y.h.k, .int .i64 y.h.m, .int .i64 y.h.f, .int .i64 y.h.t, .slice y.h.np y.h.nn y.h.nc, .slice y.h.kp y.h.kn y.h.kc] 26 (0, 0))) w18 := ⟨(STd.out.x (bx, Obj.cells #[.pointer (some ⟨S.g, 0, none⟩)] 56 (0, 0)) (by simp)).1, (STd.out.b (b5, y) (by simp)).1⟩
      refine take_fp 0 [7, 8] (oi := { dst := some 16, op := Op.load 56 (Operand.tmp 1), type := 56, pos := "modules.go:42", after := #[], guard := none }) (d := 16) (v := .pointer (some ⟨S.g, 0, none⟩)) hF hS rfl rfl (by decide) (by kernel_rfl) (by kernel_rfl) (by kernel_rfl) (by kernel_rfl) (fun _ _ _ h => h) (fun a' hA => wanted_none rfl) (fun a' hA w' hw => by have e1 := hA.get 1 rfl; have ec : ∀ v, a'.eval (.const v) = v := fun _ => rfl; have q0 := Lib.cell_of_heap hw.1 0; simp only [List.getElem?_toArray, List.getElem?_cons_zero] at q0; clear hA; generalize a'.eval = ρ at *; simp [go_sem, ec, e1, q0]; try rfl) ?_
      clear hF
      intro hF
      refine take_fp 1 [7, 8] (oi := { dst := some 17, op := Op.move (Operand.tmp 0), type := 3, pos := "modules.go:42", after := #[], guard := none }) (d := 17) (v := .int .i64 (n : Int)) hF hS rfl rfl (by decide) (by kernel_rfl) (by kernel_rfl) (by kernel_rfl) (by kernel_rfl) (fun _ _ _ h => h) (fun a' hA => wanted_none rfl) (run_move_fs rfl rfl) ?_
      clear hF
      intro hF
      refine take_fp 2 [7, 8] (oi := { dst := some 18, op := Op.move (Operand.tmp 5), type := 23, pos := "modules.go:42", after := #[], guard := none }) (d := 18) (v := .slice p12 l12 cp12) hF hS rfl rfl (by decide) (by kernel_rfl) (by kernel_rfl) (by kernel_rfl) (by kernel_rfl) (fun _ _ _ h => h) (fun a' hA => wanted_none rfl) (run_move_fs rfl rfl) ?_
      clear hF
      intro hF
      refine take_fp 3 [6, 7, 8] (oi := { dst := some 19, op := Op.load 26 (Operand.tmp 4), type := 26, pos := "modules.go:42", after := #[], guard := none }) (d := 19) (v := .agg #[.int .i64 y.h.k, .int .i64 y.h.m, .int .i64 y.h.f, .int .i64 y.h.t, .slice y.h.np y.h.nn y.h.nc, .slice y.h.kp y.h.kn y.h.kc]) hF hS rfl rfl (by decide) (by kernel_rfl) (by kernel_rfl) (by kernel_rfl) (by kernel_rfl) (fun _ _ _ h => h) (fun a' hA => wanted_none rfl) (fun a' hA w' hw => by have e4 := hA.get 4 rfl; have ec : ∀ v, a'.eval (.const v) = v := fun _ => rfl; have qq := Lib.cell_of_heap hw.2; have q0 := qq 0; have q1 := qq 1; have q2 := qq 2; have q3 := qq 3; have q4 := qq 4; have q5 := qq 5; simp only [List.getElem?_toArray, List.getElem?_cons_zero, List.getElem?_cons_succ] at q0 q1 q2 q3 q4 q5; clear qq; clear hA; generalize a'.eval = ρ at *; simp [go_sem, ec, e4, q0, q1, q2, q3, q4, q5]; try rfl) ?_
      clear hF
      intro hF
      refine take_fp 4 [5, 6, 7, 8] (oi := { dst := some 20, op := Op.load 56 (Operand.tmp 1), type := 56, pos := "modules.go:42", after := #[], guard := none }) (d := 20) (v := .pointer (some ⟨S.g, 0, none⟩)) hF hS rfl rfl (by decide) (by kernel_rfl) (by kernel_rfl) (by kernel_rfl) (by kernel_rfl) (fun _ _ _ h => h) (fun a' hA => wanted_none rfl) (fun a' hA w' hw => by have e1 := hA.get 1 rfl; have ec : ∀ v, a'.eval (.const v) = v := fun _ => rfl; have q0 := Lib.cell_of_heap hw.1 0; simp only [List.getElem?_toArray, List.getElem?_cons_zero] at q0; clear hA; generalize a'.eval = ρ at *; simp [go_sem, ec, e1, q0]; try rfl) ?_
      clear hF
      intro hF
      refine wpTill_alone 5 (by kernel_rfl) ?_
      have HT := Lib.hid (HS.out.ty ((n15)) _ STd.out.rd (bind_dry (by rw [← EQ16.out]; exact HD.out)))
      refine call_op 5 (oi := { dst := some 21, op := Op.call { callee := Callee.value (Operand.func 31), args := #[Operand.tmp 20], argTypes := #[56] }, type := 26, pos := "modules.go:42", after := #[{ on := 4, ground := Ground.data }], guard := none }) (d := 21) (R := fun e w' => Ends S d w18 (rec .ty d ((n15))) (RB w18) e w') hF rfl rfl (by decide) (fun a' hA => wanted_none rfl) (fun a' hA => by have e20 := hA.get 20 rfl; have ef : ∀ f, a'.eval (.func f) = .func (.func f) #[] #[] := fun _ => rfl; have ec : ∀ v, a'.eval (.const v) = v := fun _ => rfl; clear hA; generalize a'.eval = ρ at *; simp [go_sem, ef, ec, e20]) HT.out (fun w' => Ends.noOut) ?_ ?_
      · rintro ch w' (⟨_, _, _, _, h2, _⟩ | ⟨ch', ho, h2, hg⟩)
        · cases h2
        · have h2 := Ending.panicked.inj h2
          subst h2
          have hq : bodyPost Tryz.prog Tryz.f73 (fun e w' => Ends S d w tot (RB w) e w') (.panic ch) _ w' := ⟨hF.2.1, Or.inr ⟨ch, by rw [EQ16.out]; exact pan_bind ho, rfl, STd.out.pan hg⟩⟩
          exact hq
      rintro v w19 (⟨x19, n19, v19, hpo, h2, ⟨y19, hv, hyl, hyo, rfl⟩, hr, hg⟩ | ⟨_, _, h2, _⟩) hF2
      rotate_left
      · cases h2
      have h2 := Ending.returned.inj h2
      subst h2
      have e20 := EQ16.out
      rw [show _ = Out.ok _ _ from hpo, bind_ok] at e20
      have EQ20 := Lib.hid e20
      clear e20 EQ16 hS
      have HR19 : Hid (Br.On (fun q => q ≠ b5) y19) := Lib.hid (hyo.mono (fun q hq => by have := (Array.getElem?_eq_some_iff.1 (STd.out.b (b5, y) (by simp)).1).1; simp only at this; omega) _)
      have hv2 : v = .agg #[.int .i64 y19.h.k, .int .i64 y19.h.m, .int .i64 y19.h.f, .int .i64 y19.h.t, .slice y19.h.np y19.h.nn y19.h.nc, .slice y19.h.kp y19.h.kn y19.h.kc] := hv
      subst hv2
      clear hv hF
      have hF := hF2
      clear hF2
      have HY19 := Lib.hid (And.intro hyl (hyo.mono (fun q hq => Nat.le_trans STd.out.size hq) _))
      have ST21 := Lib.hid (STd.out.grow hr hg)
      clear hr hg STd hyl hyo hpo HT
      have hS : (fun W : World => W.heap[bx]? = some (.cells #[.pointer (some ⟨S.g, 0, none⟩)] 56 (0, 0)) ∧ W.heap[b5]? = some (.cells #[.int .i64 y.h.k, .int .i64 y.h.m, .int .i64 y.h.f, .int .i64 y.h.t, .slice y.h.np y.h.nn y.h.nc, .slice y.h.kp y.h.kn y.h.kc] 26 (0, 0))) w19 := ⟨(ST21.out.x (bx, Obj.cells #[.pointer (some ⟨S.g, 0, none⟩)] 56 (0, 0)) (by simp)).1, (ST21.out.b (b5, y) (by simp)).1⟩
      refine ⟨fun _ => hS, ?_⟩
      refine wpTill_alone 6 (by kernel_rfl) ?_
      have hys : ∀ u ∈ [y, y19], u.Lies w19 ∧ u.On (fun q => (w.alloc boxZ).heap.size ≤ q) := (List.forall_mem_cons.2 ⟨(ST21.out.b (b5, y) (by simp)).2.2, (List.forall_mem_cons.2 ⟨HY19.out, (fun _ h => nomatch h)⟩)⟩)
      have hnew : St S _ d _ (w19.alloc (.cells #[.int .i64 y.h.k, .int .i64 y.h.m, .int .i64 y.h.f, .int .i64 y.h.t, .slice y.h.np y.h.nn y.h.nc, .slice y.h.kp y.h.kn y.h.kc, .int .i64 y19.h.k, .int .i64 y19.h.m, .int .i64 y19.h.f, .int .i64 y19.h.t, .slice y19.h.np y19.h.nn y19.h.nc, .slice y19.h.kp y19.h.kn y19.h.kc] 26)) _ := ST21.out.newK [y, y19] (by simp) hys
      clear hys
      have HY23 := Lib.hid (And.intro (HY19.out.1.step _ ((Below.refl w19.heap.size w19).alloc (Nat.le_refl _) (.cells #[.int .i64 y.h.k, .int .i64 y.h.m, .int .i64 y.h.f, .int .i64 y.h.t, .slice y.h.np y.h.nn y.h.nc, .slice y.h.kp y.h.kn y.h.kc, .int .i64 y19.h.k, .int .i64 y19.h.m, .int .i64 y19.h.f, .int .i64 y19.h.t, .slice y19.h.np y19.h.nn y19.h.nc, .slice y19.h.kp y19.h.kn y19.h.kc] 26))) HY19.out.2)
      have hgb : w19.heap.size ≠ b5 := by have := (Array.getElem?_eq_some_iff.1 (ST21.out.b (b5, y) (by simp)).1).1; simp only at this; omega
      have STn := Lib.hid hnew
      clear hnew hS
      refine make_op 6 (oi := { dst := some 22, op := Op.buildSlice 24 2 #[(0, Operand.tmp 19), (1, Operand.tmp 21)], type := 24, pos := "modules.go:42", after := #[{ on := 3, ground := Ground.data }, { on := 5, ground := Ground.data }], guard := none }) (d := 22) (v := .slice (some ⟨w19.heap.size, 0, none⟩) 2 2) (w' := w19.alloc (.cells #[.int .i64 y.h.k, .int .i64 y.h.m, .int .i64 y.h.f, .int .i64 y.h.t, .slice y.h.np y.h.nn y.h.nc, .slice y.h.kp y.h.kn y.h.kc, .int .i64 y19.h.k, .int .i64 y19.h.m, .int .i64 y19.h.f, .int .i64 y19.h.t, .slice y19.h.np y19.h.nn y19.h.nc, .slice y19.h.kp y19.h.kn y19.h.kc] 26)) hF rfl rfl (by decide) (fun a' hA => wanted_none rfl) (fun a' hA => by have e19 := hA.get 19 rfl; have e21 := hA.get 21 rfl; have ec : ∀ v, a'.eval (.const v) = v := fun _ => rfl; clear hA; generalize a'.eval = ρ at *; simp [go_sem, ec, e19, e21]; try rfl) ?_
      clear hF
      intro hF
      clear ST21
      generalize w19.alloc (.cells #[.int .i64 y.h.k, .int .i64 y.h.m, .int .i64 y.h.f, .int .i64 y.h.t, .slice y.h.np y.h.nn y.h.nc, .slice y.h.kp y.h.kn y.h.kc, .int .i64 y19.h.k, .int .i64 y19.h.m, .int .i64 y19.h.f, .int .i64 y19.h.t, .slice y19.h.np y19.h.nn y19.h.nc, .slice y19.h.kp y19.h.kn y19.h.kc] 26) = w22 at *
      generalize hgz22 : w19.heap.size = g22 at *
      have ST22 := STn
      clear STn
      have hS : (fun W : World => W.heap[bx]? = some (.cells #[.pointer (some ⟨S.g, 0, none⟩)] 56 (0, 0)) ∧ W.heap[b5]? = some (.cells #[.int .i64 y.h.k, .int .i64 y.h.m, .int .i64 y.h.f, .int .i64 y.h.t, .slice y.h.np y.h.nn y.h.nc, .slice y.h.kp y.h.kn y.h.kc] 26 (0, 0))) w22 := ⟨(ST22.out.x (bx, Obj.cells #[.pointer (some ⟨S.g, 0, none⟩)] 56 (0, 0)) (by simp)).1, (ST22.out.b (b5, y) (by simp)).1⟩
      refine ⟨fun _ => hS, ?_⟩
      refine wpTill_alone 7 (by kernel_rfl) ?_
      have HT := Lib.hid (rbranch_any S (n19) d 21 (n : Nat) p12 l12 cp12 (some ⟨g22, 0, none⟩) 2 2 _ ST22.out.rd)
      refine call_op 7 (oi := { dst := some 23, op := Op.call { callee := Callee.value (Operand.func 38), args := #[Operand.tmp 16, Operand.const (Value.int IntKind.i64 21), Operand.tmp 17, Operand.tmp 18, Operand.tmp 22], argTypes := #[56, 3, 3, 23, 24] }, type := 26, pos := "modules.go:42", after := #[{ on := 0, ground := Ground.data }, { on := 1, ground := Ground.data }, { on := 2, ground := Ground.data }, { on := 6, ground := Ground.data }, { on := 5, ground := Ground.chain }], guard := none }) (d := 23) (R := fun e w' => e = .returned (.agg #[.int .i64 21, .int .i64 0, .int .i64 (n : Int), .int .i64 (n19 : Int), .slice p12 l12 cp12, .slice (some ⟨g22, 0, none⟩) 2 2]) ∧ Below w22.heap.size w22 w') hF rfl rfl (by decide) (fun a' hA => wanted_none rfl) (fun a' hA => by have e16 := hA.get 16 rfl; have e17 := hA.get 17 rfl; have e18 := hA.get 18 rfl; have e22 := hA.get 22 rfl; have ef : ∀ f, a'.eval (.func f) = .func (.func f) #[] #[] := fun _ => rfl; have ec : ∀ v, a'.eval (.const v) = v := fun _ => rfl; clear hA; generalize a'.eval = ρ at *; simp [go_sem, ef, ec, e16, e17, e18, e22]) HT.out (by rintro w' ⟨h, _⟩; cases h) ?_ ?_
      · rintro ch w' ⟨h, _⟩
        cases h
      rintro v w24 ⟨h, hb⟩
      have h := Ending.returned.inj h
      subst h
      intro hF2
      clear hF hS
      have hF := hF2
      clear hF2
      have ST24 := Lib.hid (ST22.out.below hb)
      clear hb ST22 HT
      have hS : (fun W : World => W.heap[bx]? = some (.cells #[.pointer (some ⟨S.g, 0, none⟩)] 56 (0, 0)) ∧ W.heap[b5]? = some (.cells #[.int .i64 y.h.k, .int .i64 y.h.m, .int .i64 y.h.f, .int .i64 y.h.t, .slice y.h.np y.h.nn y.h.nc, .slice y.h.kp y.h.kn y.h.kc] 26 (0, 0))) w24 := ⟨(ST24.out.x (bx, Obj.cells #[.pointer (some ⟨S.g, 0, none⟩)] 56 (0, 0)) (by simp)).1, (ST24.out.b (b5, y) (by simp)).1⟩
      refine ⟨fun _ => hS, ?_⟩
      refine wpTill_alone 8 (by kernel_rfl) ?_
      have hz := ST24.out.node_apart (b := b5) (y := y) (by simp) 21 0 (n : Nat) (n19 : Nat) (ST24.out.ns (.slice p12 l12 cp12, x12) (by simp)) (ST24.out.ks (.slice (some ⟨g22, 0, none⟩) 2 2, [y, y19]) (by simp)) (by omega) (List.forall_mem_cons.2 ⟨HAr.out, (List.forall_mem_cons.2 ⟨HR19.out, (fun _ h => nomatch h)⟩)⟩)
      have STz : Hid (St S _ d ⟨_, [(b5, (Br.mk ⟨21, 0, ((n : Nat) : Int), ((n19 : Nat) : Int), p12, l12, cp12, List.map (fun x : Nat => (x : Int)) x12, (some ⟨g22, 0, none⟩), 2, 2⟩ [y, y19]))], [], []⟩ ((((((w24.setCell ⟨b5, 0, none⟩ (.int .i64 21)).setCell ⟨b5, 1, none⟩ (.int .i64 0)).setCell ⟨b5, 2, none⟩ (.int .i64 (n : Int))).setCell ⟨b5, 3, none⟩ (.int .i64 (n19 : Int))).setCell ⟨b5, 4, none⟩ (.slice p12 l12 cp12)).setCell ⟨b5, 5, none⟩ (.slice (some ⟨g22, 0, none⟩) 2 2)) _) := Lib.hid (ST24.out.rebox (b := b5) (y := y) (by simp) hz.1 hz.2)
      have HAz : Hid (Br.On (fun q => q ≠ b5) (Br.mk ⟨21, 0, ((n : Nat) : Int), ((n19 : Nat) : Int), p12, l12, cp12, List.map (fun x : Nat => (x : Int)) x12, (some ⟨g22, 0, none⟩), 2, 2⟩ [y, y19])) := Lib.hid (Br.On.mono (Q := fun q => q ≠ b5) (fun q hq => hq.2) _ hz.2)
      have hbk := (ST24.out.b (b5, y) (by simp)).1
      have qq := Lib.cell_of_heap hbk
      have r0 := qq 0
      have r1 := qq 1
      have r2 := qq 2
      have r3 := qq 3
      have r4 := qq 4
      have r5 := qq 5
      simp only [List.getElem?_toArray, List.getElem?_cons_zero, List.getElem?_cons_succ] at r0 r1 r2 r3 r4 r5
      have f0 := cells_frozen hbk 0
      have f1 := cells_frozen hbk 1
      have f2 := cells_frozen hbk 2
      have f3 := cells_frozen hbk 3
      have f4 := cells_frozen hbk 4
      have f5 := cells_frozen hbk 5
      simp only at f0 f1 f2 f3 f4 f5
      clear hbk qq hz
      refine store_op 8 (oi := { dst := none, op := Op.store 26 (Operand.tmp 4) (Operand.tmp 23), type := 0, pos := "modules.go:42", after := #[{ on := 7, ground := Ground.data }, { on := 7, ground := Ground.chain }, { on := 0, ground := Ground.phase }, { on := 1, ground := Ground.phase }, { on := 2, ground := Ground.phase }, { on := 3, ground := Ground.phase }, { on := 4, ground := Ground.phase }, { on := 5, ground := Ground.phase }, { on := 6, ground := Ground.phase }, { on := 7, ground := Ground.phase }], guard := none }) (w' := ((((((w24.setCell ⟨b5, 0, none⟩ (.int .i64 21)).setCell ⟨b5, 1, none⟩ (.int .i64 0)).setCell ⟨b5, 2, none⟩ (.int .i64 (n : Int))).setCell ⟨b5, 3, none⟩ (.int .i64 (n19 : Int))).setCell ⟨b5, 4, none⟩ (.slice p12 l12 cp12)).setCell ⟨b5, 5, none⟩ (.slice (some ⟨g22, 0, none⟩) 2 2))) hF rfl rfl (fun a' hA => wanted_none rfl) (fun a' hA => ?_) ?_
      · have e1 := hA.get 4 rfl
        have e2 := hA.get 23 rfl
        clear hA hF
        generalize a'.eval = ρ at *
        simp [go_sem, e1, e2, r0, r1, r2, r3, r4, r5, f0, f1, f2, f3, f4, f5]
      refine ⟨fun h => absurd h (by decide), ?_⟩
      refine wpTill_done (by kernel_rfl) ?_ _
      subst ha0
      simp only [Act.put, List.setIfInBounds_toArray, List.set_cons_zero, List.set_cons_succ]
      clear hF hS ST24 r0 r1 r2 r3 r4 r5 f0 f1 f2 f3 f4 f5
      generalize ((((((w24.setCell ⟨b5, 0, none⟩ (.int .i64 21)).setCell ⟨b5, 1, none⟩ (.int .i64 0)).setCell ⟨b5, 2, none⟩ (.int .i64 (n : Int))).setCell ⟨b5, 3, none⟩ (.int .i64 (n19 : Int))).setCell ⟨b5, 4, none⟩ (.slice p12 l12 cp12)).setCell ⟨b5, 5, none⟩ (.slice (some ⟨g22, 0, none⟩) 2 2)) = wz at *
      go_wp2_with fail
      go_roundg gk
      case measure => omega
      case rel => exact ⟨(Br.mk ⟨21, 0, ((n : Nat) : Int), ((n19 : Nat) : Int), p12, l12, cp12, List.map (fun x : Nat => (x : Int)) x12, (some ⟨g22, 0, none⟩), 2, 2⟩ [y, y19]), n19, EQ20, STz, HAz⟩
end Go.Proofs.YtkjgkchdkeggoaaGreatDoor
