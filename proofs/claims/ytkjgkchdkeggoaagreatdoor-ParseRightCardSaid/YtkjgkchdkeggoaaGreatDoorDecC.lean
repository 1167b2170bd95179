/-
  The reader's dec: what lies within one part.
-/
import Derived.Test.YtkjgkchdkeggoaaGreatDoorDecls
import Derived.Test.YtkjgkchdkeggoaaGreatDoorKeep
import Derived.Deep.RegionHeld3
import Derived.Deep.Cut
namespace Go.Proofs.YtkjgkchdkeggoaaGreatDoor
open Go.RowKit
set_option maxRecDepth 20000
set_option linter.unusedVariables false
set_option linter.unusedSimpArgs false

theorem int1 {W : World} {g : Nat} {k : Int} (h : W.heap[g]? = some (.cells #[.int .i64 k] 3 (0, 0))) : IntCells W g [k] := fun i hi => by
 obtain rfl : i = 0 := by simpa using hi
 exact Lib.cell_of_heap h 0
theorem cfn83 (args : Array Value) (w : World) : Sem.run Tryz.prog (callFunc 83 args) w = .ok (.enter 83 args) w := cf_enter Tryz.func83 (by kernel_rfl) (by kernel_rfl) args w
set_option maxHeartbeats 16000000 in
theorem decC_any (S : Src) (F : Nat) (rec : Nt → Nat → Nat → Out Pb) (d : Nat) (hs : Said S rec d) (hF0 : F ≤ 1000000000) (bx byy at_ : Nat) (n : Nat) (w : World) (h : Rd w S n d) (hx0 : w.heap[bx]? = some (.cells #[.pointer (some ⟨S.g, 0, none⟩)] 56 (0, 0))) (hg0 : bx ≠ S.g) (hx1 : w.heap[byy]? = some (.cells #[.int .i64 (at_ : Int)] 3 (0, 0))) (hg1 : byy ≠ S.g) (hdc : declares S 2 n = true) (hdry : decO S F rec d at_ n ≠ .dry) :
  Calls Tryz.prog 82 #[.int .i64 (n : Int), .pointer (some ⟨bx, 0, none⟩), .pointer (some ⟨byy, 0, none⟩)] w fun e w' => Ends S d w (decO S F rec d at_ n) (RB w) e w' := by
 have hgl := h.lt
 have hgwl := h.row
 have hbd := h.bound
 have ST0 := Lib.hid (St.init h [(bx, Obj.cells #[.pointer (some ⟨S.g, 0, none⟩)] 56 (0, 0)), (byy, Obj.cells #[.int .i64 (at_ : Int)] 3 (0, 0))] (fun p hp => by
  simp only [List.mem_cons, List.not_mem_nil, or_false] at hp
  rcases hp with rfl | rfl
  ·exact ⟨hx0, hg0⟩
  ·exact ⟨hx1, hg1⟩))
 have HS := Lib.hid hs
 have hn0 := h.here
 have hn1 := declares_more h.good h.here hdc
 have HKP : Hid (∀ W, Below (w.alloc boxZ).heap.size (w.alloc boxZ) W → W.cell? ⟨bx, 0, none⟩ = some (.pointer (some ⟨S.g, 0, none⟩)) ∧ W.cell? ⟨byy, 0, none⟩ = some (.int .i64 (at_ : Int))) := Lib.hid fun W hW => ⟨(ST0.out.below hW).xc (b := bx) (v := .pointer (some ⟨S.g, 0, none⟩)) (T := 56) (by simp), (ST0.out.below hW).xc (b := byy) (v := .int .i64 (at_ : Int)) (T := 3) (by simp)⟩
 have HDC : Hid (∀ W, Below (w.alloc boxZ).heap.size (w.alloc boxZ) W → Calls Tryz.prog 59 #[.pointer (some ⟨S.g, 0, none⟩), .int .i64 (at_ : Int)] W fun e w' => e = .returned (.bool (declares S at_ n)) ∧ Below (w.alloc boxZ).heap.size (w.alloc boxZ) w') := Lib.hid fun W hW => (declares_any S n d at_ W (ST0.out.below hW).rd).mono fun e w' q => ⟨q.1, hW.trans (q.2.mono hW.size)⟩
 obtain ⟨tot, htot⟩ : ∃ tot, tot = decO S F rec d at_ n := ⟨_, rfl⟩
 have HD : Hid (tot ≠ .dry) := Lib.hid (by rw [htot]; exact hdry)
 rw [← htot]
 unfold decO at htot
 have EQ0 := Lib.hid htot
 clear h hdry htot hs hx0 hg0 hx1 hg1 hdc
 have EXN := Lib.hid (fun W (hW : Below (w.alloc boxZ).heap.size (w.alloc boxZ) W) => (expect_no S n d W (ST0.out.below hW).rd).mono fun e w' q => (⟨q.1, hW.trans (q.2.mono hW.size)⟩ : _ ∧ Below (w.alloc boxZ).heap.size (w.alloc boxZ) w'))
 have EXY := Lib.hid (fun W (hW : Below (w.alloc boxZ).heap.size (w.alloc boxZ) W) => (expect_yes S n d W (ST0.out.below hW).rd).mono fun e w' q => (⟨q.1, q.2 ▸ hW⟩ : _ ∧ Below (w.alloc boxZ).heap.size (w.alloc boxZ) w'))
 cases hda : declares S at_ n
 ·have ef := EQ0.out
  simp only [hda, cond_false] at ef
  have EQf := Lib.hid ef
  rw [hda] at HDC
  have HEX := EXN
  clear ef EQ0 EXY EXN
  go_enter Tryz.func82, Tryz.ntmps82
  go_upto_region 1 with fail
  refine wp_region_till (fun W : World => W.heap[bx]? = some (.cells #[.pointer (some ⟨S.g, 0, none⟩)] 56 (0, 0)) ∧ W.heap[byy]? = some (.cells #[.int .i64 (at_ : Int)] 3 (0, 0))) 4 (by kernel_rfl) ?_
  have STd := Lib.hid (ST0.out.below (Below.refl (w.alloc boxZ).heap.size (w.alloc boxZ)).drew)
  refine start_fp (N := 98) [(1, .pointer (some ⟨bx, 0, none⟩)), (2, .pointer (some ⟨byy, 0, none⟩))] (Fs.of rfl rfl (by simp [Act.eval])) ?_
  intro a0 ha0 hF
  have hS : (fun W : World => W.heap[bx]? = some (.cells #[.pointer (some ⟨S.g, 0, none⟩)] 56 (0, 0)) ∧ W.heap[byy]? = some (.cells #[.int .i64 (at_ : Int)] 3 (0, 0))) (w.alloc boxZ).drew := ⟨(STd.out.x (bx, Obj.cells #[.pointer (some ⟨S.g, 0, none⟩)] 56 (0, 0)) (by simp)).1, (STd.out.x (byy, Obj.cells #[.int .i64 (at_ : Int)] 3 (0, 0)) (by simp)).1⟩
  refine take_fp 0 [4] (oi := { dst := some 8, op := Op.load 56 (Operand.tmp 1), type := 56, pos := "decs.go:53", after := #[], guard := none }) (d := 8) (v := .pointer (some ⟨S.g, 0, none⟩)) hF hS rfl rfl (by decide) (by kernel_rfl) (by kernel_rfl) (by kernel_rfl) (by kernel_rfl) (fun _ _ _ h => h) (fun a' hA => wanted_none rfl) (fun a' hA w' hw => by have e1 := hA.get 1 rfl; have ec : ∀ v, a'.eval (.const v) = v := fun _ => rfl; have q0 := Lib.cell_of_heap hw.1 0; simp only [List.getElem?_toArray, List.getElem?_cons_zero] at q0; clear hA; generalize a'.eval = ρ at *; simp [go_sem, ec, e1, q0]; try rfl) ?_
  clear hF
  intro hF
  refine take_fp 1 [3, 4] (oi := { dst := some 9, op := Op.load 56 (Operand.tmp 1), type := 56, pos := "decs.go:53", after := #[], guard := none }) (d := 9) (v := .pointer (some ⟨S.g, 0, none⟩)) hF hS rfl rfl (by decide) (by kernel_rfl) (by kernel_rfl) (by kernel_rfl) (by kernel_rfl) (fun _ _ _ h => h) (fun a' hA => wanted_none rfl) (fun a' hA w' hw => by have e1 := hA.get 1 rfl; have ec : ∀ v, a'.eval (.const v) = v := fun _ => rfl; have q0 := Lib.cell_of_heap hw.1 0; simp only [List.getElem?_toArray, List.getElem?_cons_zero] at q0; clear hA; generalize a'.eval = ρ at *; simp [go_sem, ec, e1, q0]; try rfl) ?_
  clear hF
  intro hF
  refine take_fp 2 [3, 4] (oi := { dst := some 10, op := Op.load 3 (Operand.tmp 2), type := 3, pos := "decs.go:53", after := #[], guard := none }) (d := 10) (v := .int .i64 (at_ : Int)) hF hS rfl rfl (by decide) (by kernel_rfl) (by kernel_rfl) (by kernel_rfl) (by kernel_rfl) (fun _ _ _ h => h) (fun a' hA => wanted_none rfl) (fun a' hA w' hw => by have e1 := hA.get 2 rfl; have ec : ∀ v, a'.eval (.const v) = v := fun _ => rfl; have q0 := Lib.cell_of_heap hw.2 0; simp only [List.getElem?_toArray, List.getElem?_cons_zero] at q0; clear hA; generalize a'.eval = ρ at *; simp [go_sem, ec, e1, q0]; try rfl) ?_
  clear hF
  intro hF
  refine call_fp 3 (oi := { dst := some 11, op := Op.call { callee := Callee.value (Operand.func 59), args := #[Operand.tmp 9, Operand.tmp 10], argTypes := #[56, 3] }, type := 4, pos := "decs.go:53", after := #[{ on := 1, ground := Ground.data }, { on := 2, ground := Ground.data }], guard := none }) (d := 11) (R := fun e w' => e = .returned (.bool false) ∧ Below (w.alloc boxZ).heap.size (w.alloc boxZ) w') hF rfl rfl (by decide) (by kernel_rfl) (fun a' hA => wanted_none rfl) (fun a' hA => by have e9 := hA.get 9 rfl; have e10 := hA.get 10 rfl; have ef : ∀ f, a'.eval (.func f) = .func (.func f) #[] #[] := fun _ => rfl; have ec : ∀ v, a'.eval (.const v) = v := fun _ => rfl; clear hA; generalize a'.eval = ρ at *; simp [go_sem, ef, ec, e9, e10]) (HDC.out _ (Below.refl _ _).drew) (by rintro w' ⟨h, _⟩; cases h) (by rintro ch w' ⟨h, _⟩; cases h) ?_
  rintro v wa ⟨h, hba⟩
  have h := Ending.returned.inj h
  subst h
  have STa := Lib.hid (ST0.out.below hba)
  refine ⟨fun _ => ⟨(STa.out.x (bx, Obj.cells #[.pointer (some ⟨S.g, 0, none⟩)] 56 (0, 0)) (by simp)).1, (STa.out.x (byy, Obj.cells #[.int .i64 (at_ : Int)] 3 (0, 0)) (by simp)).1⟩, ?_⟩
  clear hF
  intro hF
  refine call_fp 4 (oi := { dst := some 12, op := Op.call { callee := Callee.value (Operand.func 36), args := #[Operand.tmp 8, Operand.tmp 11], argTypes := #[56, 4] }, type := 0, pos := "decs.go:53", after := #[{ on := 0, ground := Ground.data }, { on := 3, ground := Ground.data }, { on := 3, ground := Ground.chain }], guard := none }) (d := 12) (R := fun e w' => e = .panicked [{ v := .iface 63 (.int .i64 (S.pl n)), recovered := false }] ∧ Below (w.alloc boxZ).heap.size (w.alloc boxZ) w') hF rfl rfl (by decide) (by kernel_rfl) (fun a' hA => wanted_none rfl) (fun a' hA => by have e8 := hA.get 8 rfl; have e11 := hA.get 11 rfl; have ef : ∀ f, a'.eval (.func f) = .func (.func f) #[] #[] := fun _ => rfl; have ec : ∀ v, a'.eval (.const v) = v := fun _ => rfl; clear hA; generalize a'.eval = ρ at *; simp [go_sem, ef, ec, e8, e11]) (HEX.out _ hba) (by rintro w' ⟨h, _⟩; cases h) ?_ (by rintro v w' ⟨h, _⟩; cases h)
  rintro ch wb ⟨h, hbb⟩
  have h := Ending.panicked.inj h
  subst h
  have hE : Ends S d w tot (RB w) (.panicked [{ v := .iface 63 (.int .i64 (S.pl n)), recovered := false }]) wb := Or.inr ⟨_, by rw [EQf.out]; rfl, rfl, ST0.out.pan (grown_below hbb _)⟩
  have hq : bodyPost Tryz.prog Tryz.f82 (fun e w' => Ends S d w tot (RB w) e w') (.panic [{ v := .iface 63 (.int .i64 (S.pl n)), recovered := false }]) _ wb := ⟨hF.2.1, hE⟩
  exact hq
 ·have ef := EQ0.out
  simp only [hda, cond_true] at ef
  unfold decB at ef
  have EQt := Lib.hid ef
  rw [hda] at HDC
  have HEX := EXY
  clear ef EQ0 EXY EXN
  cases h0 : S.is n [118, 97, 108]
  ·have e2 := EQt.out
   simp only [h0, cond_false] at e2
   have EQ2 := Lib.hid e2
   clear e2 EQt
   cases h1 : S.is n [102, 117, 110]
   ·have e3 := EQ2.out
    simp only [h1, cond_false] at e3
    have EQ3 := Lib.hid e3
    clear e3 EQ2
    cases h2 : S.is n [116, 121, 112, 101]
    ·have e4 := EQ3.out
     simp only [h2, cond_false] at e4
     have EQ4 := Lib.hid e4
     clear e4 EQ3
     cases h3 : S.is n [100, 97, 116, 97, 116, 121, 112, 101]
     ·have e5 := EQ4.out
      simp only [h3, cond_false] at e5
      have EQ5 := Lib.hid e5
      clear e5 EQ4
      cases h4 : S.is n [115, 116, 114, 117, 99, 116, 117, 114, 101]
      ·have e6 := EQ5.out
       simp only [h4, cond_false] at e6
       have EQ6 := Lib.hid e6
       clear e6 EQ5
       cases h5 : S.is n [115, 105, 103, 110, 97, 116, 117, 114, 101]
       ·have e7 := EQ6.out
        simp only [h5, cond_false] at e7
        have EQ7 := Lib.hid e7
        clear e7 EQ6
        cases h6 : S.is n [102, 117, 110, 99, 116, 111, 114]
        ·have e8 := EQ7.out
         simp only [h6, cond_false] at e8
         have EQ8 := Lib.hid e8
         clear e8 EQ7
         cases h7 : S.is n [111, 112, 101, 110]
         ·have e9 := EQ8.out
          simp only [h7, cond_false] at e9
          have EQ9 := Lib.hid e9
          clear e9 EQ8
          have t0 := is_tx h0
          have t1 := is_tx h1
          have t2 := is_tx h2
          have t3 := is_tx h3
          have t4 := is_tx h4
          have t5 := is_tx h5
          have t6 := is_tx h6
          have t7 := is_tx h7
          go_enter Tryz.func82, Tryz.ntmps82
          go_upto_region 1 with fail
          have qx0 := ST0.out.xc (b := bx) (v := .pointer (some ⟨S.g, 0, none⟩)) (T := 56) (by simp)
          have qx1 := ST0.out.xc (b := byy) (v := .int .i64 (at_ : Int)) (T := 3) (by simp)
          go_region_held3 (fun w' => w'.cell? ⟨bx, 0, none⟩ = some (.pointer (some ⟨S.g, 0, none⟩)) ∧ w'.cell? ⟨byy, 0, none⟩ = some (.int .i64 (at_ : Int))) (first | exact ⟨qx0, qx1⟩ | exact HKP.out _ (Below.refl _ _).drew | exact HKP.out _ HBA.out | exact HKP.out _ HBA.out.drew | exact HKP.out _ HBB.out | exact HKP.out _ HBB.out.drew | go_keep) (first | (go_at_call 59; (with_reducible refine Calls.mono (HDC.out _ (by first | exact Below.refl _ _ | exact (Below.refl _ _).drew)) ?_); rintro e wa ⟨rfl, hba⟩; have HBA := Lib.hid hba; clear hba) | (go_at_call 36; (with_reducible refine Calls.mono (HEX.out _ (by first | exact HBA.out | exact HBA.out.drew)) ?_); rintro e wb ⟨rfl, hbb⟩; have HBB := Lib.hid hbb; clear hbb))
          clear qx0 qx1
          have STb := Lib.hid (ST0.out.below HBB.out)
          have STm := Lib.hid (STb.out.moved (n + 1) hn1 ((n : Int) + 1) (by omega))
          have q2 := STb.out.rd.c2
          have fz2 := STb.out.rd.free 2
          have qx0 := STb.out.xc (b := bx) (v := .pointer (some ⟨S.g, 0, none⟩)) (T := 56) (by simp)
          have qm0 := STm.out.xc (b := bx) (v := .pointer (some ⟨S.g, 0, none⟩)) (T := 56) (by simp)
          have qx1 := STb.out.xc (b := byy) (v := .int .i64 (at_ : Int)) (T := 3) (by simp)
          have qm1 := STm.out.xc (b := byy) (v := .int .i64 (at_ : Int)) (T := 3) (by simp)
          have HP := Lib.hid (rtext_any S (n + 1) d (n) _ STm.out.rd hn0)
          go_wp2_with fail
          refine HP.out.mono ?_
          rintro e w10 ⟨rfl, hb⟩
          have ST11 := Lib.hid (STm.out.below hb)
          clear hb STm HP
          clear q2 fz2 qx0 qm0 qx1 qm1
          have qx0 := ST11.out.xc (b := bx) (v := .pointer (some ⟨S.g, 0, none⟩)) (T := 56) (by simp)
          have qx1 := ST11.out.xc (b := byy) (v := .int .i64 (at_ : Int)) (T := 3) (by simp)
          have HC := Lib.hid (local_any S F rec d at_ n ((n + 1)) _ ST11.out.rd (fun k w' hr hnd => decs_any S F rec d HS.out hF0 at_ k w' hr hnd) (by rw [← EQ9.out]; exact HD.out))
          go_wp2_with fail
          refine HC.out.mono ?_
          rintro e w12 (⟨x12, n12, v12, hpo, rfl, ⟨y12, hv, hyl, hyo, rfl⟩, hr, hg⟩ | ⟨ch, ho, rfl, hg⟩)
          rotate_left
          ·exact ⟨rfl, Or.inr ⟨ch, by rw [EQ9.out]; exact ho, rfl, ST11.out.pan hg⟩⟩
          have EQ13 := Lib.hid (EQ9.out.trans hpo)
          clear EQ9
          have HY12 := Lib.hid (And.intro hyl (hyo.mono (fun q hq => Nat.le_trans ST11.out.size hq) _))
          simp only [Hd.val] at hv
          subst hv
          have ST14 := Lib.hid (ST11.out.grow hr hg)
          clear hr hg ST11 hyl hyo hpo HC
          clear qx0 qx1
          have qx0 := ST14.out.xc (b := bx) (v := .pointer (some ⟨S.g, 0, none⟩)) (T := 56) (by simp)
          have qx1 := ST14.out.xc (b := byy) (v := .int .i64 (at_ : Int)) (T := 3) (by simp)
          have FIN := Lib.hid (ST14.out.finY hgl hgwl HY12.out.1 HY12.out.2 EQ13.out)
          clear ST14 HY12 EQ13
          clear qx0 qx1
          have c0 := FIN.out.c0
          have c1 := FIN.out.c1
          have c2 := FIN.out.c2
          have c3 := FIN.out.c3
          have c4 := FIN.out.c4
          have c5 := FIN.out.c5
          have f0 := FIN.out.fz 0
          have f1 := FIN.out.fz 1
          have f2 := FIN.out.fz 2
          have f3 := FIN.out.fz 3
          have f4 := FIN.out.fz 4
          have f5 := FIN.out.fz 5
          go_wp2_with fail
          obtain ⟨_, _, _, _, _, _, _, d0, d1, d2, d3, d4, d5, hfin⟩ := FIN.out
          refine bodyPost_ret (by simp [results, Tryz.results82, go_sem, d0, d1, d2, d3, d4, d5, Result.andThen]; try rfl) rfl ?_
          exact hfin
         ·have e9 := EQ8.out
          simp only [h7, cond_true] at e9
          have EQ9 := Lib.hid e9
          clear e9 EQ8
          have t0 := is_tx h0
          have t1 := is_tx h1
          have t2 := is_tx h2
          have t3 := is_tx h3
          have t4 := is_tx h4
          have t5 := is_tx h5
          have t6 := is_tx h6
          have t7 := is_tx h7
          go_enter Tryz.func82, Tryz.ntmps82
          go_upto_region 1 with fail
          have qx0 := ST0.out.xc (b := bx) (v := .pointer (some ⟨S.g, 0, none⟩)) (T := 56) (by simp)
          have qx1 := ST0.out.xc (b := byy) (v := .int .i64 (at_ : Int)) (T := 3) (by simp)
          go_region_held3 (fun w' => w'.cell? ⟨bx, 0, none⟩ = some (.pointer (some ⟨S.g, 0, none⟩)) ∧ w'.cell? ⟨byy, 0, none⟩ = some (.int .i64 (at_ : Int))) (first | exact ⟨qx0, qx1⟩ | exact HKP.out _ (Below.refl _ _).drew | exact HKP.out _ HBA.out | exact HKP.out _ HBA.out.drew | exact HKP.out _ HBB.out | exact HKP.out _ HBB.out.drew | go_keep) (first | (go_at_call 59; (with_reducible refine Calls.mono (HDC.out _ (by first | exact Below.refl _ _ | exact (Below.refl _ _).drew)) ?_); rintro e wa ⟨rfl, hba⟩; have HBA := Lib.hid hba; clear hba) | (go_at_call 36; (with_reducible refine Calls.mono (HEX.out _ (by first | exact HBA.out | exact HBA.out.drew)) ?_); rintro e wb ⟨rfl, hbb⟩; have HBB := Lib.hid hbb; clear hbb))
          clear qx0 qx1
          have STb := Lib.hid (ST0.out.below HBB.out)
          have STm := Lib.hid (STb.out.moved (n + 1) hn1 ((n : Int) + 1) (by omega))
          have q2 := STb.out.rd.c2
          have fz2 := STb.out.rd.free 2
          have qx0 := STb.out.xc (b := bx) (v := .pointer (some ⟨S.g, 0, none⟩)) (T := 56) (by simp)
          have qm0 := STm.out.xc (b := bx) (v := .pointer (some ⟨S.g, 0, none⟩)) (T := 56) (by simp)
          have qx1 := STb.out.xc (b := byy) (v := .int .i64 (at_ : Int)) (T := 3) (by simp)
          have qm1 := STm.out.xc (b := byy) (v := .int .i64 (at_ : Int)) (T := 3) (by simp)
          have HP := Lib.hid (rtext_any S (n + 1) d (n) _ STm.out.rd hn0)
          go_wp2_with fail
          refine HP.out.mono ?_
          rintro e w10 ⟨rfl, hb⟩
          have ST11 := Lib.hid (STm.out.below hb)
          clear hb STm HP
          clear q2 fz2 qx0 qm0 qx1 qm1
          have qx0 := ST11.out.xc (b := bx) (v := .pointer (some ⟨S.g, 0, none⟩)) (T := 56) (by simp)
          have qx1 := ST11.out.xc (b := byy) (v := .int .i64 (at_ : Int)) (T := 3) (by simp)
          go_wp2_with fail
          refine wp_region_till (fun W : World => W.heap[bx]? = some (.cells #[.pointer (some ⟨S.g, 0, none⟩)] 56 (0, 0)) ∧ W.heap[byy]? = some (.cells #[.int .i64 (at_ : Int)] 3 (0, 0))) 6 (by kernel_rfl) ?_
          have STd := Lib.hid (ST11.out.below (Below.refl w10.heap.size w10).drew)
          refine start_fp (N := 98) [(0, .int .i64 (n : Int)), (1, .pointer (some ⟨bx, 0, none⟩)), (2, .pointer (some ⟨byy, 0, none⟩)), (4, .pointer (some ⟨w.heap.size, 0, none⟩))] (Fs.of rfl rfl (by simp [Act.eval])) ?_
          intro a0 ha0 hF
          clear ST11 qx0 qx1
          generalize w10.drew = w12 at *
          have hS : (fun W : World => W.heap[bx]? = some (.cells #[.pointer (some ⟨S.g, 0, none⟩)] 56 (0, 0)) ∧ W.heap[byy]? = some (.cells #[.int .i64 (at_ : Int)] 3 (0, 0))) w12 := ⟨(STd.out.x (bx, Obj.cells #[.pointer (some ⟨S.g, 0, none⟩)] 56 (0, 0)) (by simp)).1, (STd.out.x (byy, Obj.cells #[.int .i64 (at_ : Int)] 3 (0, 0)) (by simp)).1⟩
          refine take_fp 0 [5, 6] (oi := { dst := some 88, op := Op.load 56 (Operand.tmp 1), type := 56, pos := "decs.go:77", after := #[], guard := none }) (d := 88) (v := .pointer (some ⟨S.g, 0, none⟩)) hF hS rfl rfl (by decide) (by kernel_rfl) (by kernel_rfl) (by kernel_rfl) (by kernel_rfl) (fun _ _ _ h => h) (fun a' hA => wanted_none rfl) (fun a' hA w' hw => by have e1 := hA.get 1 rfl; have ec : ∀ v, a'.eval (.const v) = v := fun _ => rfl; have q0 := Lib.cell_of_heap hw.1 0; simp only [List.getElem?_toArray, List.getElem?_cons_zero] at q0; clear hA; generalize a'.eval = ρ at *; simp [go_sem, ec, e1, q0]; try rfl) ?_
          clear hF
          intro hF
          refine take_fp 1 [5, 6] (oi := { dst := some 89, op := Op.move (Operand.tmp 0), type := 3, pos := "decs.go:77", after := #[], guard := none }) (d := 89) (v := .int .i64 (n : Int)) hF hS rfl rfl (by decide) (by kernel_rfl) (by kernel_rfl) (by kernel_rfl) (by kernel_rfl) (fun _ _ _ h => h) (fun a' hA => wanted_none rfl) (run_move_fs rfl rfl) ?_
          clear hF
          intro hF
          refine take_fp 2 [4, 5, 6] (oi := { dst := some 90, op := Op.load 56 (Operand.tmp 1), type := 56, pos := "decs.go:77", after := #[], guard := none }) (d := 90) (v := .pointer (some ⟨S.g, 0, none⟩)) hF hS rfl rfl (by decide) (by kernel_rfl) (by kernel_rfl) (by kernel_rfl) (by kernel_rfl) (fun _ _ _ h => h) (fun a' hA => wanted_none rfl) (fun a' hA w' hw => by have e1 := hA.get 1 rfl; have ec : ∀ v, a'.eval (.const v) = v := fun _ => rfl; have q0 := Lib.cell_of_heap hw.1 0; simp only [List.getElem?_toArray, List.getElem?_cons_zero] at q0; clear hA; generalize a'.eval = ρ at *; simp [go_sem, ec, e1, q0]; try rfl) ?_
          clear hF
          intro hF
          refine wpTill_alone 3 (by kernel_rfl) ?_
          have hnew : St S _ d _ (w12.alloc (.cells #[.int .i64 7] 3)) _ := STd.out.below ((Below.refl _ _).alloc (Nat.le_refl _) _)
          have HKC := Lib.hid (heap_alloc_new w12 (.cells #[.int .i64 7] 3))
          have hgn : w12.heap.size ≠ S.g := by have := STd.out.size; have := STd.out.lt; omega
          have STn := Lib.hid hnew
          clear hnew hS
          refine make_op 3 (oi := { dst := some 91, op := Op.buildSlice 23 1 #[(0, Operand.const (Value.int IntKind.i64 7))], type := 23, pos := "decs.go:77", after := #[], guard := none }) (d := 91) (v := .slice (some ⟨w12.heap.size, 0, none⟩) 1 1) (w' := w12.alloc (.cells #[.int .i64 7] 3)) hF rfl rfl (by decide) (fun a' hA => wanted_none rfl) (fun a' hA => by  have ec : ∀ v, a'.eval (.const v) = v := fun _ => rfl; clear hA; generalize a'.eval = ρ at *; simp [go_sem, ec]; try rfl) ?_
          clear hF
          intro hF
          clear STd
          generalize w12.alloc (.cells #[.int .i64 7] 3) = w13 at *
          generalize hgz13 : w12.heap.size = g13 at *
          have ST13 := STn
          clear STn
          have hS : (fun W : World => W.heap[bx]? = some (.cells #[.pointer (some ⟨S.g, 0, none⟩)] 56 (0, 0)) ∧ W.heap[byy]? = some (.cells #[.int .i64 (at_ : Int)] 3 (0, 0))) w13 := ⟨(ST13.out.x (bx, Obj.cells #[.pointer (some ⟨S.g, 0, none⟩)] 56 (0, 0)) (by simp)).1, (ST13.out.x (byy, Obj.cells #[.int .i64 (at_ : Int)] 3 (0, 0)) (by simp)).1⟩
          refine ⟨fun _ => hS, ?_⟩
          refine wpTill_alone 4 (by kernel_rfl) ?_
          have HT := Lib.hid (rpath_any S ((n + 1)) d [7] g13 1 _ ST13.out.rd (int1 HKC.out) (Array.getElem?_eq_some_iff.1 HKC.out).1 hgn (by simp) (by simp) (by decide) (bind_dry (by rw [← EQ9.out]; exact HD.out)))
          refine call_op 4 (oi := { dst := some 92, op := Op.call { callee := Callee.value (Operand.func 70), args := #[Operand.tmp 90, Operand.tmp 91], argTypes := #[56, 23] }, type := 23, pos := "decs.go:77", after := #[{ on := 2, ground := Ground.data }, { on := 3, ground := Ground.data }], guard := none }) (d := 92) (R := fun e w' => Ends S d w13 (S.path [7] ((n + 1))) (RL w13) e w') hF rfl rfl (by decide) (fun a' hA => wanted_none rfl) (fun a' hA => by have e85 := hA.get 90 rfl; have e86 := hA.get 91 rfl; have ef : ∀ f, a'.eval (.func f) = .func (.func f) #[] #[] := fun _ => rfl; have ec : ∀ v, a'.eval (.const v) = v := fun _ => rfl; clear hA; generalize a'.eval = ρ at *; simp [go_sem, ef, ec, e85, e86]) HT.out (fun w' => Ends.noOut) ?_ ?_
          ·rintro ch w' (⟨_, _, _, _, h2, _⟩ | ⟨ch', ho, h2, hg⟩)
           ·cases h2
           ·have h2 := Ending.panicked.inj h2
            subst h2
            have hq : bodyPost Tryz.prog Tryz.f82 (fun e w' => Ends S d w tot (RB w) e w') (.panic ch) _ w' := ⟨hF.2.1, Or.inr ⟨ch, by rw [EQ9.out]; exact pan_bind ho, rfl, ST13.out.pan hg⟩⟩
            exact hq
          rintro v w14 (⟨x14, n14, v14, hpo, h2, hv, hr, hg⟩ | ⟨_, _, h2, _⟩) hF2
          rotate_left
          ·cases h2
          have h2 := Ending.returned.inj h2
          subst h2
          have e15 := EQ9.out
          rw [show _ = Out.ok _ _ from hpo, bind_ok] at e15
          have EQ15 := Lib.hid e15
          clear e15 EQ9 hS
          have hz := ST13.out.size
          obtain ⟨p14, l14, cp14, hvf⟩ := hv.form
          subst hvf
          have ho := own_base hv hz
          clear hF
          have hF := hF2
          clear hF2
          have ST16 := Lib.hid ((ST13.out.grow hr hg).addN ho)
          clear hr hg ST13 hv ho hz hpo HT
          have hS : (fun W : World => W.heap[bx]? = some (.cells #[.pointer (some ⟨S.g, 0, none⟩)] 56 (0, 0)) ∧ W.heap[byy]? = some (.cells #[.int .i64 (at_ : Int)] 3 (0, 0))) w14 := ⟨(ST16.out.x (bx, Obj.cells #[.pointer (some ⟨S.g, 0, none⟩)] 56 (0, 0)) (by simp)).1, (ST16.out.x (byy, Obj.cells #[.int .i64 (at_ : Int)] 3 (0, 0)) (by simp)).1⟩
          refine ⟨fun _ => hS, ?_⟩
          refine wpTill_alone 5 (by kernel_rfl) ?_
          have HT := Lib.hid (rbranch_any S (n14) d 13 (n : Nat) p14 l14 cp14 none 0 0 _ ST16.out.rd)
          refine call_op 5 (oi := { dst := some 93, op := Op.call { callee := Callee.value (Operand.func 38), args := #[Operand.tmp 88, Operand.const (Value.int IntKind.i64 13), Operand.tmp 89, Operand.tmp 92, Operand.const (Value.slice none 0 0)], argTypes := #[56, 3, 3, 23, 24] }, type := 26, pos := "decs.go:77", after := #[{ on := 0, ground := Ground.data }, { on := 1, ground := Ground.data }, { on := 4, ground := Ground.data }, { on := 4, ground := Ground.chain }], guard := none }) (d := 93) (R := fun e w' => e = .returned (.agg #[.int .i64 13, .int .i64 0, .int .i64 (n : Int), .int .i64 (n14 : Int), .slice p14 l14 cp14, .slice none 0 0]) ∧ Below w14.heap.size w14 w') hF rfl rfl (by decide) (fun a' hA => wanted_none rfl) (fun a' hA => by have e83 := hA.get 88 rfl; have e84 := hA.get 89 rfl; have e87 := hA.get 92 rfl; have ef : ∀ f, a'.eval (.func f) = .func (.func f) #[] #[] := fun _ => rfl; have ec : ∀ v, a'.eval (.const v) = v := fun _ => rfl; clear hA; generalize a'.eval = ρ at *; simp [go_sem, ef, ec, e83, e84, e87]) HT.out (by rintro w' ⟨h, _⟩; cases h) ?_ ?_
          ·rintro ch w' ⟨h, _⟩
           cases h
          rintro v w17 ⟨h, hb⟩
          have h := Ending.returned.inj h
          subst h
          intro hF2
          clear hF hS
          have hF := hF2
          clear hF2
          have ST17 := Lib.hid (ST16.out.below hb)
          clear hb ST16 HT
          have hS : (fun W : World => W.heap[bx]? = some (.cells #[.pointer (some ⟨S.g, 0, none⟩)] 56 (0, 0)) ∧ W.heap[byy]? = some (.cells #[.int .i64 (at_ : Int)] 3 (0, 0))) w17 := ⟨(ST17.out.x (bx, Obj.cells #[.pointer (some ⟨S.g, 0, none⟩)] 56 (0, 0)) (by simp)).1, (ST17.out.x (byy, Obj.cells #[.int .i64 (at_ : Int)] 3 (0, 0)) (by simp)).1⟩
          refine ⟨fun _ => hS, ?_⟩
          refine wpTill_alone 6 (by kernel_rfl) ?_
          have FIN := Lib.hid (ST17.out.fin (k := 13) (m := 0) (f := n) hgl hgwl (ST17.out.ns (.slice p14 l14 cp14, x14) (by simp)) St.noK EQ15.out)
          refine store_op 6 (oi := { dst := none, op := Op.store 26 (Operand.tmp 4) (Operand.tmp 93), type := 0, pos := "decs.go:77", after := #[{ on := 5, ground := Ground.data }, { on := 5, ground := Ground.chain }, { on := 0, ground := Ground.phase }, { on := 1, ground := Ground.phase }, { on := 2, ground := Ground.phase }, { on := 3, ground := Ground.phase }, { on := 4, ground := Ground.phase }, { on := 5, ground := Ground.phase }], guard := none }) (w' := ((((((w17.setCell ⟨w.heap.size, 0, none⟩ (.int .i64 13)).setCell ⟨w.heap.size, 1, none⟩ (.int .i64 0)).setCell ⟨w.heap.size, 2, none⟩ (.int .i64 (n : Int))).setCell ⟨w.heap.size, 3, none⟩ (.int .i64 (n14 : Int))).setCell ⟨w.heap.size, 4, none⟩ (.slice p14 l14 cp14)).setCell ⟨w.heap.size, 5, none⟩ (.slice none 0 0))) hF rfl rfl (fun a' hA => wanted_none rfl) (fun a' hA => ?_) ?_
          ·have e1 := hA.get 4 rfl
           have e2 := hA.get 93 rfl
           have c0 := FIN.out.c0
           have c1 := FIN.out.c1
           have c2 := FIN.out.c2
           have c3 := FIN.out.c3
           have c4 := FIN.out.c4
           have c5 := FIN.out.c5
           have f0 := FIN.out.fz 0
           have f1 := FIN.out.fz 1
           have f2 := FIN.out.fz 2
           have f3 := FIN.out.fz 3
           have f4 := FIN.out.fz 4
           have f5 := FIN.out.fz 5
           clear hA hF
           generalize a'.eval = ρ at *
           simp [go_sem, e1, e2, c0, c1, c2, c3, c4, c5, f0, f1, f2, f3, f4, f5]
          refine ⟨fun h => absurd h (by decide), ?_⟩
          refine wpTill_done (by kernel_rfl) ?_ _
          subst ha0
          simp only [Act.put, List.setIfInBounds_toArray, List.set_cons_zero, List.set_cons_succ]
          clear hF hS ST17 EQ15
          go_wp2_with fail
          obtain ⟨_, _, _, _, _, _, _, d0, d1, d2, d3, d4, d5, hfin⟩ := FIN.out
          refine bodyPost_ret (by simp [results, Tryz.results82, go_sem, d0, d1, d2, d3, d4, d5, Result.andThen]; try rfl) rfl ?_
          exact hfin
        ·have e8 := EQ7.out
         simp only [h6, cond_true] at e8
         have EQ8 := Lib.hid e8
         clear e8 EQ7
         have t0 := is_tx h0
         have t1 := is_tx h1
         have t2 := is_tx h2
         have t3 := is_tx h3
         have t4 := is_tx h4
         have t5 := is_tx h5
         have t6 := is_tx h6
         go_enter Tryz.func82, Tryz.ntmps82
         go_upto_region 1 with fail
         have qx0 := ST0.out.xc (b := bx) (v := .pointer (some ⟨S.g, 0, none⟩)) (T := 56) (by simp)
         have qx1 := ST0.out.xc (b := byy) (v := .int .i64 (at_ : Int)) (T := 3) (by simp)
         go_region_held3 (fun w' => w'.cell? ⟨bx, 0, none⟩ = some (.pointer (some ⟨S.g, 0, none⟩)) ∧ w'.cell? ⟨byy, 0, none⟩ = some (.int .i64 (at_ : Int))) (first | exact ⟨qx0, qx1⟩ | exact HKP.out _ (Below.refl _ _).drew | exact HKP.out _ HBA.out | exact HKP.out _ HBA.out.drew | exact HKP.out _ HBB.out | exact HKP.out _ HBB.out.drew | go_keep) (first | (go_at_call 59; (with_reducible refine Calls.mono (HDC.out _ (by first | exact Below.refl _ _ | exact (Below.refl _ _).drew)) ?_); rintro e wa ⟨rfl, hba⟩; have HBA := Lib.hid hba; clear hba) | (go_at_call 36; (with_reducible refine Calls.mono (HEX.out _ (by first | exact HBA.out | exact HBA.out.drew)) ?_); rintro e wb ⟨rfl, hbb⟩; have HBB := Lib.hid hbb; clear hbb))
         clear qx0 qx1
         have STb := Lib.hid (ST0.out.below HBB.out)
         have STm := Lib.hid (STb.out.moved (n + 1) hn1 ((n : Int) + 1) (by omega))
         have q2 := STb.out.rd.c2
         have fz2 := STb.out.rd.free 2
         have qx0 := STb.out.xc (b := bx) (v := .pointer (some ⟨S.g, 0, none⟩)) (T := 56) (by simp)
         have qm0 := STm.out.xc (b := bx) (v := .pointer (some ⟨S.g, 0, none⟩)) (T := 56) (by simp)
         have qx1 := STb.out.xc (b := byy) (v := .int .i64 (at_ : Int)) (T := 3) (by simp)
         have qm1 := STm.out.xc (b := byy) (v := .int .i64 (at_ : Int)) (T := 3) (by simp)
         have HP := Lib.hid (rtext_any S (n + 1) d (n) _ STm.out.rd hn0)
         go_wp2_with fail
         refine HP.out.mono ?_
         rintro e w9 ⟨rfl, hb⟩
         have ST10 := Lib.hid (STm.out.below hb)
         clear hb STm HP
         clear q2 fz2 qx0 qm0 qx1 qm1
         have qx0 := ST10.out.xc (b := bx) (v := .pointer (some ⟨S.g, 0, none⟩)) (T := 56) (by simp)
         have qx1 := ST10.out.xc (b := byy) (v := .int .i64 (at_ : Int)) (T := 3) (by simp)
         have HC := Lib.hid (functor_any S F rec d HS.out hF0 n ((n + 1)) _ ST10.out.rd (by rw [← EQ8.out]; exact HD.out))
         go_wp2_with fail
         refine HC.out.mono ?_
         rintro e w11 (⟨x11, n11, v11, hpo, rfl, ⟨y11, hv, hyl, hyo, rfl⟩, hr, hg⟩ | ⟨ch, ho, rfl, hg⟩)
         rotate_left
         ·exact ⟨rfl, Or.inr ⟨ch, by rw [EQ8.out]; exact ho, rfl, ST10.out.pan hg⟩⟩
         have EQ12 := Lib.hid (EQ8.out.trans hpo)
         clear EQ8
         have HY11 := Lib.hid (And.intro hyl (hyo.mono (fun q hq => Nat.le_trans ST10.out.size hq) _))
         simp only [Hd.val] at hv
         subst hv
         have ST13 := Lib.hid (ST10.out.grow hr hg)
         clear hr hg ST10 hyl hyo hpo HC
         clear qx0 qx1
         have qx0 := ST13.out.xc (b := bx) (v := .pointer (some ⟨S.g, 0, none⟩)) (T := 56) (by simp)
         have qx1 := ST13.out.xc (b := byy) (v := .int .i64 (at_ : Int)) (T := 3) (by simp)
         have FIN := Lib.hid (ST13.out.finY hgl hgwl HY11.out.1 HY11.out.2 EQ12.out)
         clear ST13 HY11 EQ12
         clear qx0 qx1
         have c0 := FIN.out.c0
         have c1 := FIN.out.c1
         have c2 := FIN.out.c2
         have c3 := FIN.out.c3
         have c4 := FIN.out.c4
         have c5 := FIN.out.c5
         have f0 := FIN.out.fz 0
         have f1 := FIN.out.fz 1
         have f2 := FIN.out.fz 2
         have f3 := FIN.out.fz 3
         have f4 := FIN.out.fz 4
         have f5 := FIN.out.fz 5
         go_wp2_with fail
         obtain ⟨_, _, _, _, _, _, _, d0, d1, d2, d3, d4, d5, hfin⟩ := FIN.out
         refine bodyPost_ret (by simp [results, Tryz.results82, go_sem, d0, d1, d2, d3, d4, d5, Result.andThen]; try rfl) rfl ?_
         exact hfin
       ·have e7 := EQ6.out
        simp only [h5, cond_true] at e7
        have EQ7 := Lib.hid e7
        clear e7 EQ6
        have t0 := is_tx h0
        have t1 := is_tx h1
        have t2 := is_tx h2
        have t3 := is_tx h3
        have t4 := is_tx h4
        have t5 := is_tx h5
        go_enter Tryz.func82, Tryz.ntmps82
        go_upto_region 1 with fail
        have qx0 := ST0.out.xc (b := bx) (v := .pointer (some ⟨S.g, 0, none⟩)) (T := 56) (by simp)
        have qx1 := ST0.out.xc (b := byy) (v := .int .i64 (at_ : Int)) (T := 3) (by simp)
        go_region_held3 (fun w' => w'.cell? ⟨bx, 0, none⟩ = some (.pointer (some ⟨S.g, 0, none⟩)) ∧ w'.cell? ⟨byy, 0, none⟩ = some (.int .i64 (at_ : Int))) (first | exact ⟨qx0, qx1⟩ | exact HKP.out _ (Below.refl _ _).drew | exact HKP.out _ HBA.out | exact HKP.out _ HBA.out.drew | exact HKP.out _ HBB.out | exact HKP.out _ HBB.out.drew | go_keep) (first | (go_at_call 59; (with_reducible refine Calls.mono (HDC.out _ (by first | exact Below.refl _ _ | exact (Below.refl _ _).drew)) ?_); rintro e wa ⟨rfl, hba⟩; have HBA := Lib.hid hba; clear hba) | (go_at_call 36; (with_reducible refine Calls.mono (HEX.out _ (by first | exact HBA.out | exact HBA.out.drew)) ?_); rintro e wb ⟨rfl, hbb⟩; have HBB := Lib.hid hbb; clear hbb))
        clear qx0 qx1
        have STb := Lib.hid (ST0.out.below HBB.out)
        have STm := Lib.hid (STb.out.moved (n + 1) hn1 ((n : Int) + 1) (by omega))
        have q2 := STb.out.rd.c2
        have fz2 := STb.out.rd.free 2
        have qx0 := STb.out.xc (b := bx) (v := .pointer (some ⟨S.g, 0, none⟩)) (T := 56) (by simp)
        have qm0 := STm.out.xc (b := bx) (v := .pointer (some ⟨S.g, 0, none⟩)) (T := 56) (by simp)
        have qx1 := STb.out.xc (b := byy) (v := .int .i64 (at_ : Int)) (T := 3) (by simp)
        have qm1 := STm.out.xc (b := byy) (v := .int .i64 (at_ : Int)) (T := 3) (by simp)
        have HP := Lib.hid (rtext_any S (n + 1) d (n) _ STm.out.rd hn0)
        go_wp2_with fail
        refine HP.out.mono ?_
        rintro e w8 ⟨rfl, hb⟩
        have ST9 := Lib.hid (STm.out.below hb)
        clear hb STm HP
        clear q2 fz2 qx0 qm0 qx1 qm1
        have qx0 := ST9.out.xc (b := bx) (v := .pointer (some ⟨S.g, 0, none⟩)) (T := 56) (by simp)
        have qx1 := ST9.out.xc (b := byy) (v := .int .i64 (at_ : Int)) (T := 3) (by simp)
        have HC := Lib.hid (take1 S ((n + 1)) d 7 (by decide) _ ST9.out.rd)
        go_wp2_with fail
        refine HC.out.mono ?_
        rintro e w10 (⟨x10, n10, v10, hpo, rfl, hv, hr, hg⟩ | ⟨ch, ho, rfl, hg⟩)
        rotate_left
        ·exact ⟨rfl, Or.inr ⟨ch, by rw [EQ7.out]; exact pan_bind (ho), rfl, ST9.out.pan hg⟩⟩
        have e11 := EQ7.out
        rw [show _ = Out.ok _ _ from hpo, bind_ok] at e11
        have EQ11 := Lib.hid e11
        clear e11 EQ7
        obtain rfl : v10 = .int .i64 (x10 : Int) := hv
        have ST12 := Lib.hid (ST9.out.grow hr hg)
        clear hr hg ST9 hpo HC
        clear qx0 qx1
        have qx0 := ST12.out.xc (b := bx) (v := .pointer (some ⟨S.g, 0, none⟩)) (T := 56) (by simp)
        have qx1 := ST12.out.xc (b := byy) (v := .int .i64 (at_ : Int)) (T := 3) (by simp)
        have HC := Lib.hid (rneed_any S ((n10)) d ⟨#[61]⟩ _ ST12.out.rd (by simp))
        go_wp2_with fail
        refine HC.out.mono ?_
        rintro e w13 (⟨x13, n13, v13, hpo, rfl, hv, hr, hg⟩ | ⟨ch, ho, rfl, hg⟩)
        rotate_left
        ·exact ⟨rfl, Or.inr ⟨ch, by rw [EQ11.out]; exact pan_bind (ho), rfl, ST12.out.pan hg⟩⟩
        have e14 := EQ11.out
        rw [show _ = Out.ok _ _ from hpo, bind_ok] at e14
        have EQ14 := Lib.hid e14
        clear e14 EQ11
        obtain rfl : v13 = .tuple #[] := hv
        have ST15 := Lib.hid (ST12.out.grow hr hg)
        clear hr hg ST12 hpo HC
        clear qx0 qx1
        have qx0 := ST15.out.xc (b := bx) (v := .pointer (some ⟨S.g, 0, none⟩)) (T := 56) (by simp)
        have qx1 := ST15.out.xc (b := byy) (v := .int .i64 (at_ : Int)) (T := 3) (by simp)
        go_wp2_with fail
        refine wp_region_till (fun W : World => W.heap[bx]? = some (.cells #[.pointer (some ⟨S.g, 0, none⟩)] 56 (0, 0)) ∧ W.heap[byy]? = some (.cells #[.int .i64 (at_ : Int)] 3 (0, 0))) 8 (by kernel_rfl) ?_
        have STd := Lib.hid (ST15.out.below (Below.refl w13.heap.size w13).drew)
        refine start_fp (N := 98) [(0, .int .i64 (n : Int)), (1, .pointer (some ⟨bx, 0, none⟩)), (2, .pointer (some ⟨byy, 0, none⟩)), (4, .pointer (some ⟨w.heap.size, 0, none⟩)), (7, .int .i64 (x10 : Int))] (Fs.of rfl rfl (by simp [Act.eval])) ?_
        intro a0 ha0 hF
        clear ST15 qx0 qx1
        generalize w13.drew = w16 at *
        have hS : (fun W : World => W.heap[bx]? = some (.cells #[.pointer (some ⟨S.g, 0, none⟩)] 56 (0, 0)) ∧ W.heap[byy]? = some (.cells #[.int .i64 (at_ : Int)] 3 (0, 0))) w16 := ⟨(STd.out.x (bx, Obj.cells #[.pointer (some ⟨S.g, 0, none⟩)] 56 (0, 0)) (by simp)).1, (STd.out.x (byy, Obj.cells #[.int .i64 (at_ : Int)] 3 (0, 0)) (by simp)).1⟩
        refine take_fp 0 [7, 8] (oi := { dst := some 73, op := Op.load 56 (Operand.tmp 1), type := 56, pos := "decs.go:73", after := #[], guard := none }) (d := 73) (v := .pointer (some ⟨S.g, 0, none⟩)) hF hS rfl rfl (by decide) (by kernel_rfl) (by kernel_rfl) (by kernel_rfl) (by kernel_rfl) (fun _ _ _ h => h) (fun a' hA => wanted_none rfl) (fun a' hA w' hw => by have e1 := hA.get 1 rfl; have ec : ∀ v, a'.eval (.const v) = v := fun _ => rfl; have q0 := Lib.cell_of_heap hw.1 0; simp only [List.getElem?_toArray, List.getElem?_cons_zero] at q0; clear hA; generalize a'.eval = ρ at *; simp [go_sem, ec, e1, q0]; try rfl) ?_
        clear hF
        intro hF
        refine take_fp 1 [7, 8] (oi := { dst := some 74, op := Op.move (Operand.tmp 0), type := 3, pos := "decs.go:73", after := #[], guard := none }) (d := 74) (v := .int .i64 (n : Int)) hF hS rfl rfl (by decide) (by kernel_rfl) (by kernel_rfl) (by kernel_rfl) (by kernel_rfl) (fun _ _ _ h => h) (fun a' hA => wanted_none rfl) (run_move_fs rfl rfl) ?_
        clear hF
        intro hF
        refine take_fp 2 [3, 7, 8] (oi := { dst := some 75, op := Op.move (Operand.tmp 7), type := 3, pos := "decs.go:73", after := #[], guard := none }) (d := 75) (v := .int .i64 (x10 : Int)) hF hS rfl rfl (by decide) (by kernel_rfl) (by kernel_rfl) (by kernel_rfl) (by kernel_rfl) (fun _ _ _ h => h) (fun a' hA => wanted_none rfl) (run_move_fs rfl rfl) ?_
        clear hF
        intro hF
        refine take_fp 4 [5, 6, 7, 8] (oi := { dst := some 77, op := Op.load 56 (Operand.tmp 1), type := 56, pos := "decs.go:73", after := #[], guard := none }) (d := 77) (v := .pointer (some ⟨S.g, 0, none⟩)) hF hS rfl rfl (by decide) (by kernel_rfl) (by kernel_rfl) (by kernel_rfl) (by kernel_rfl) (fun _ _ _ h => h) (fun a' hA => wanted_none rfl) (fun a' hA w' hw => by have e1 := hA.get 1 rfl; have ec : ∀ v, a'.eval (.const v) = v := fun _ => rfl; have q0 := Lib.cell_of_heap hw.1 0; simp only [List.getElem?_toArray, List.getElem?_cons_zero] at q0; clear hA; generalize a'.eval = ρ at *; simp [go_sem, ec, e1, q0]; try rfl) ?_
        clear hF
        intro hF
        refine wpTill_two 3 5 (by kernel_rfl) (fun _ => ?_) (fun _ => ?_)
        ·have hnew : St S _ d _ (w16.alloc (.cells #[.int .i64 (x10 : Int)] 3)) _ := STd.out.newN [x10] (by simp)
         have STn := Lib.hid hnew
         clear hnew hS
         refine make_op 3 (oi := { dst := some 76, op := Op.buildSlice 23 1 #[(0, Operand.tmp 75)], type := 23, pos := "decs.go:73", after := #[{ on := 2, ground := Ground.data }], guard := none }) (d := 76) (v := .slice (some ⟨w16.heap.size, 0, none⟩) 1 1) (w' := w16.alloc (.cells #[.int .i64 (x10 : Int)] 3)) hF rfl rfl (by decide) (fun a' hA => wanted_none rfl) (fun a' hA => by have e70 := hA.get 75 rfl; have ec : ∀ v, a'.eval (.const v) = v := fun _ => rfl; clear hA; generalize a'.eval = ρ at *; simp [go_sem, ec, e70]; try rfl) ?_
         clear hF
         intro hF
         clear STd
         generalize w16.alloc (.cells #[.int .i64 (x10 : Int)] 3) = w17 at *
         generalize hgz17 : w16.heap.size = g17 at *
         have ST17 := STn
         clear STn
         have hS : (fun W : World => W.heap[bx]? = some (.cells #[.pointer (some ⟨S.g, 0, none⟩)] 56 (0, 0)) ∧ W.heap[byy]? = some (.cells #[.int .i64 (at_ : Int)] 3 (0, 0))) w17 := ⟨(ST17.out.x (bx, Obj.cells #[.pointer (some ⟨S.g, 0, none⟩)] 56 (0, 0)) (by simp)).1, (ST17.out.x (byy, Obj.cells #[.int .i64 (at_ : Int)] 3 (0, 0)) (by simp)).1⟩
         refine ⟨fun _ => hS, ?_⟩
         refine wpTill_alone 5 (by kernel_rfl) ?_
         have HT := Lib.hid (HS.out.sig ((n13)) _ ST17.out.rd (bind_dry (by rw [← EQ14.out]; exact HD.out)))
         refine call_op 5 (oi := { dst := some 78, op := Op.call { callee := Callee.value (Operand.func 42), args := #[Operand.tmp 77], argTypes := #[56] }, type := 26, pos := "decs.go:73", after := #[{ on := 4, ground := Ground.data }], guard := none }) (d := 78) (R := fun e w' => Ends S d w17 (rec .sig d ((n13))) (RB w17) e w') hF rfl rfl (by decide) (fun a' hA => wanted_none rfl) (fun a' hA => by have e72 := hA.get 77 rfl; have ef : ∀ f, a'.eval (.func f) = .func (.func f) #[] #[] := fun _ => rfl; have ec : ∀ v, a'.eval (.const v) = v := fun _ => rfl; clear hA; generalize a'.eval = ρ at *; simp [go_sem, ef, ec, e72]) HT.out (fun w' => Ends.noOut) ?_ ?_
         ·rintro ch w' (⟨_, _, _, _, h2, _⟩ | ⟨ch', ho, h2, hg⟩)
          ·cases h2
          ·have h2 := Ending.panicked.inj h2
           subst h2
           have hq : bodyPost Tryz.prog Tryz.f82 (fun e w' => Ends S d w tot (RB w) e w') (.panic ch) _ w' := ⟨hF.2.1, Or.inr ⟨ch, by rw [EQ14.out]; exact pan_bind ho, rfl, ST17.out.pan hg⟩⟩
           exact hq
         rintro v w18 (⟨x18, n18, v18, hpo, h2, ⟨y18, hv, hyl, hyo, rfl⟩, hr, hg⟩ | ⟨_, _, h2, _⟩) hF2
         rotate_left
         ·cases h2
         have h2 := Ending.returned.inj h2
         subst h2
         have e19 := EQ14.out
         rw [show _ = Out.ok _ _ from hpo, bind_ok] at e19
         have EQ19 := Lib.hid e19
         clear e19 EQ14 hS
         have hv2 : v = .agg #[.int .i64 y18.h.k, .int .i64 y18.h.m, .int .i64 y18.h.f, .int .i64 y18.h.t, .slice y18.h.np y18.h.nn y18.h.nc, .slice y18.h.kp y18.h.kn y18.h.kc] := hv
         subst hv2
         clear hv hF
         have hF := hF2
         clear hF2
         have HY18 := Lib.hid (And.intro hyl (hyo.mono (fun q hq => Nat.le_trans ST17.out.size hq) _))
         have ST20 := Lib.hid (ST17.out.grow hr hg)
         clear hr hg ST17 hyl hyo hpo HT
         have hS : (fun W : World => W.heap[bx]? = some (.cells #[.pointer (some ⟨S.g, 0, none⟩)] 56 (0, 0)) ∧ W.heap[byy]? = some (.cells #[.int .i64 (at_ : Int)] 3 (0, 0))) w18 := ⟨(ST20.out.x (bx, Obj.cells #[.pointer (some ⟨S.g, 0, none⟩)] 56 (0, 0)) (by simp)).1, (ST20.out.x (byy, Obj.cells #[.int .i64 (at_ : Int)] 3 (0, 0)) (by simp)).1⟩
         refine ⟨fun _ => hS, ?_⟩
         refine wpTill_alone 6 (by kernel_rfl) ?_
         have hys : ∀ u ∈ [y18], u.Lies w18 ∧ u.On (fun q => (w.alloc boxZ).heap.size ≤ q) := (List.forall_mem_cons.2 ⟨HY18.out, (fun _ h => nomatch h)⟩)
         have hnew : St S _ d _ (w18.alloc (.cells #[.int .i64 y18.h.k, .int .i64 y18.h.m, .int .i64 y18.h.f, .int .i64 y18.h.t, .slice y18.h.np y18.h.nn y18.h.nc, .slice y18.h.kp y18.h.kn y18.h.kc] 26)) _ := ST20.out.newK [y18] (by simp) hys
         clear hys
         have HY22 := Lib.hid (And.intro (HY18.out.1.step _ ((Below.refl w18.heap.size w18).alloc (Nat.le_refl _) (.cells #[.int .i64 y18.h.k, .int .i64 y18.h.m, .int .i64 y18.h.f, .int .i64 y18.h.t, .slice y18.h.np y18.h.nn y18.h.nc, .slice y18.h.kp y18.h.kn y18.h.kc] 26))) HY18.out.2)
         have STn := Lib.hid hnew
         clear hnew hS
         refine make_op 6 (oi := { dst := some 79, op := Op.buildSlice 24 1 #[(0, Operand.tmp 78)], type := 24, pos := "decs.go:73", after := #[{ on := 5, ground := Ground.data }], guard := none }) (d := 79) (v := .slice (some ⟨w18.heap.size, 0, none⟩) 1 1) (w' := w18.alloc (.cells #[.int .i64 y18.h.k, .int .i64 y18.h.m, .int .i64 y18.h.f, .int .i64 y18.h.t, .slice y18.h.np y18.h.nn y18.h.nc, .slice y18.h.kp y18.h.kn y18.h.kc] 26)) hF rfl rfl (by decide) (fun a' hA => wanted_none rfl) (fun a' hA => by have e73 := hA.get 78 rfl; have ec : ∀ v, a'.eval (.const v) = v := fun _ => rfl; clear hA; generalize a'.eval = ρ at *; simp [go_sem, ec, e73]; try rfl) ?_
         clear hF
         intro hF
         clear ST20
         generalize w18.alloc (.cells #[.int .i64 y18.h.k, .int .i64 y18.h.m, .int .i64 y18.h.f, .int .i64 y18.h.t, .slice y18.h.np y18.h.nn y18.h.nc, .slice y18.h.kp y18.h.kn y18.h.kc] 26) = w21 at *
         generalize hgz21 : w18.heap.size = g21 at *
         have ST21 := STn
         clear STn
         have hS : (fun W : World => W.heap[bx]? = some (.cells #[.pointer (some ⟨S.g, 0, none⟩)] 56 (0, 0)) ∧ W.heap[byy]? = some (.cells #[.int .i64 (at_ : Int)] 3 (0, 0))) w21 := ⟨(ST21.out.x (bx, Obj.cells #[.pointer (some ⟨S.g, 0, none⟩)] 56 (0, 0)) (by simp)).1, (ST21.out.x (byy, Obj.cells #[.int .i64 (at_ : Int)] 3 (0, 0)) (by simp)).1⟩
         refine ⟨fun _ => hS, ?_⟩
         refine wpTill_alone 7 (by kernel_rfl) ?_
         have HT := Lib.hid (rbranch_any S (n18) d 11 (n : Nat) (some ⟨g17, 0, none⟩) 1 1 (some ⟨g21, 0, none⟩) 1 1 _ ST21.out.rd)
         refine call_op 7 (oi := { dst := some 80, op := Op.call { callee := Callee.value (Operand.func 38), args := #[Operand.tmp 73, Operand.const (Value.int IntKind.i64 11), Operand.tmp 74, Operand.tmp 76, Operand.tmp 79], argTypes := #[56, 3, 3, 23, 24] }, type := 26, pos := "decs.go:73", after := #[{ on := 0, ground := Ground.data }, { on := 1, ground := Ground.data }, { on := 3, ground := Ground.data }, { on := 6, ground := Ground.data }, { on := 5, ground := Ground.chain }], guard := none }) (d := 80) (R := fun e w' => e = .returned (.agg #[.int .i64 11, .int .i64 0, .int .i64 (n : Int), .int .i64 (n18 : Int), .slice (some ⟨g17, 0, none⟩) 1 1, .slice (some ⟨g21, 0, none⟩) 1 1]) ∧ Below w21.heap.size w21 w') hF rfl rfl (by decide) (fun a' hA => wanted_none rfl) (fun a' hA => by have e68 := hA.get 73 rfl; have e69 := hA.get 74 rfl; have e71 := hA.get 76 rfl; have e74 := hA.get 79 rfl; have ef : ∀ f, a'.eval (.func f) = .func (.func f) #[] #[] := fun _ => rfl; have ec : ∀ v, a'.eval (.const v) = v := fun _ => rfl; clear hA; generalize a'.eval = ρ at *; simp [go_sem, ef, ec, e68, e69, e71, e74]) HT.out (by rintro w' ⟨h, _⟩; cases h) ?_ ?_
         ·rintro ch w' ⟨h, _⟩
          cases h
         rintro v w23 ⟨h, hb⟩
         have h := Ending.returned.inj h
         subst h
         intro hF2
         clear hF hS
         have hF := hF2
         clear hF2
         have ST23 := Lib.hid (ST21.out.below hb)
         clear hb ST21 HT
         have hS : (fun W : World => W.heap[bx]? = some (.cells #[.pointer (some ⟨S.g, 0, none⟩)] 56 (0, 0)) ∧ W.heap[byy]? = some (.cells #[.int .i64 (at_ : Int)] 3 (0, 0))) w23 := ⟨(ST23.out.x (bx, Obj.cells #[.pointer (some ⟨S.g, 0, none⟩)] 56 (0, 0)) (by simp)).1, (ST23.out.x (byy, Obj.cells #[.int .i64 (at_ : Int)] 3 (0, 0)) (by simp)).1⟩
         refine ⟨fun _ => hS, ?_⟩
         refine wpTill_alone 8 (by kernel_rfl) ?_
         have FIN := Lib.hid (ST23.out.fin (k := 11) (m := 0) (f := n) hgl hgwl (ST23.out.ns (.slice (some ⟨g17, 0, none⟩) 1 1, [x10]) (by simp)) (ST23.out.ks (.slice (some ⟨g21, 0, none⟩) 1 1, [y18]) (by simp)) EQ19.out)
         refine store_op 8 (oi := { dst := none, op := Op.store 26 (Operand.tmp 4) (Operand.tmp 80), type := 0, pos := "decs.go:73", after := #[{ on := 7, ground := Ground.data }, { on := 7, ground := Ground.chain }, { on := 0, ground := Ground.phase }, { on := 1, ground := Ground.phase }, { on := 2, ground := Ground.phase }, { on := 3, ground := Ground.phase }, { on := 4, ground := Ground.phase }, { on := 5, ground := Ground.phase }, { on := 6, ground := Ground.phase }, { on := 7, ground := Ground.phase }], guard := none }) (w' := ((((((w23.setCell ⟨w.heap.size, 0, none⟩ (.int .i64 11)).setCell ⟨w.heap.size, 1, none⟩ (.int .i64 0)).setCell ⟨w.heap.size, 2, none⟩ (.int .i64 (n : Int))).setCell ⟨w.heap.size, 3, none⟩ (.int .i64 (n18 : Int))).setCell ⟨w.heap.size, 4, none⟩ (.slice (some ⟨g17, 0, none⟩) 1 1)).setCell ⟨w.heap.size, 5, none⟩ (.slice (some ⟨g21, 0, none⟩) 1 1))) hF rfl rfl (fun a' hA => wanted_none rfl) (fun a' hA => ?_) ?_
         ·have e1 := hA.get 4 rfl
          have e2 := hA.get 80 rfl
          have c0 := FIN.out.c0
          have c1 := FIN.out.c1
          have c2 := FIN.out.c2
          have c3 := FIN.out.c3
          have c4 := FIN.out.c4
          have c5 := FIN.out.c5
          have f0 := FIN.out.fz 0
          have f1 := FIN.out.fz 1
          have f2 := FIN.out.fz 2
          have f3 := FIN.out.fz 3
          have f4 := FIN.out.fz 4
          have f5 := FIN.out.fz 5
          clear hA hF
          generalize a'.eval = ρ at *
          simp [go_sem, e1, e2, c0, c1, c2, c3, c4, c5, f0, f1, f2, f3, f4, f5]
         refine ⟨fun h => absurd h (by decide), ?_⟩
         refine wpTill_done (by kernel_rfl) ?_ _
         subst ha0
         simp only [Act.put, List.setIfInBounds_toArray, List.set_cons_zero, List.set_cons_succ]
         clear hF hS ST23 EQ19
         go_wp2_with fail
         obtain ⟨_, _, _, _, _, _, _, d0, d1, d2, d3, d4, d5, hfin⟩ := FIN.out
         refine bodyPost_ret (by simp [results, Tryz.results82, go_sem, d0, d1, d2, d3, d4, d5, Result.andThen]; try rfl) rfl ?_
         exact hfin
        ·have HT := Lib.hid (HS.out.sig ((n13)) _ STd.out.rd (bind_dry (by rw [← EQ14.out]; exact HD.out)))
         refine call_op 5 (oi := { dst := some 78, op := Op.call { callee := Callee.value (Operand.func 42), args := #[Operand.tmp 77], argTypes := #[56] }, type := 26, pos := "decs.go:73", after := #[{ on := 4, ground := Ground.data }], guard := none }) (d := 78) (R := fun e w' => Ends S d w16 (rec .sig d ((n13))) (RB w16) e w') hF rfl rfl (by decide) (fun a' hA => wanted_none rfl) (fun a' hA => by have e72 := hA.get 77 rfl; have ef : ∀ f, a'.eval (.func f) = .func (.func f) #[] #[] := fun _ => rfl; have ec : ∀ v, a'.eval (.const v) = v := fun _ => rfl; clear hA; generalize a'.eval = ρ at *; simp [go_sem, ef, ec, e72]) HT.out (fun w' => Ends.noOut) ?_ ?_
         ·rintro ch w' (⟨_, _, _, _, h2, _⟩ | ⟨ch', ho, h2, hg⟩)
          ·cases h2
          ·have h2 := Ending.panicked.inj h2
           subst h2
           have hq : bodyPost Tryz.prog Tryz.f82 (fun e w' => Ends S d w tot (RB w) e w') (.panic ch) _ w' := ⟨hF.2.1, Or.inr ⟨ch, by rw [EQ14.out]; exact pan_bind ho, rfl, STd.out.pan hg⟩⟩
           exact hq
         rintro v w17 (⟨x17, n17, v17, hpo, h2, ⟨y17, hv, hyl, hyo, rfl⟩, hr, hg⟩ | ⟨_, _, h2, _⟩) hF2
         rotate_left
         ·cases h2
         have h2 := Ending.returned.inj h2
         subst h2
         have e18 := EQ14.out
         rw [show _ = Out.ok _ _ from hpo, bind_ok] at e18
         have EQ18 := Lib.hid e18
         clear e18 EQ14 hS
         have hv2 : v = .agg #[.int .i64 y17.h.k, .int .i64 y17.h.m, .int .i64 y17.h.f, .int .i64 y17.h.t, .slice y17.h.np y17.h.nn y17.h.nc, .slice y17.h.kp y17.h.kn y17.h.kc] := hv
         subst hv2
         clear hv hF
         have hF := hF2
         clear hF2
         have HY17 := Lib.hid (And.intro hyl (hyo.mono (fun q hq => Nat.le_trans STd.out.size hq) _))
         have ST19 := Lib.hid (STd.out.grow hr hg)
         clear hr hg STd hyl hyo hpo HT
         have hS : (fun W : World => W.heap[bx]? = some (.cells #[.pointer (some ⟨S.g, 0, none⟩)] 56 (0, 0)) ∧ W.heap[byy]? = some (.cells #[.int .i64 (at_ : Int)] 3 (0, 0))) w17 := ⟨(ST19.out.x (bx, Obj.cells #[.pointer (some ⟨S.g, 0, none⟩)] 56 (0, 0)) (by simp)).1, (ST19.out.x (byy, Obj.cells #[.int .i64 (at_ : Int)] 3 (0, 0)) (by simp)).1⟩
         refine ⟨fun _ => hS, ?_⟩
         refine wpTill_two 3 6 (by kernel_rfl) (fun _ => ?_) (fun _ => ?_)
         ·have hnew : St S _ d _ (w17.alloc (.cells #[.int .i64 (x10 : Int)] 3)) _ := ST19.out.newN [x10] (by simp)
          have HY21 := Lib.hid (And.intro (HY17.out.1.step _ ((Below.refl w17.heap.size w17).alloc (Nat.le_refl _) (.cells #[.int .i64 (x10 : Int)] 3))) HY17.out.2)
          have STn := Lib.hid hnew
          clear hnew hS
          refine make_op 3 (oi := { dst := some 76, op := Op.buildSlice 23 1 #[(0, Operand.tmp 75)], type := 23, pos := "decs.go:73", after := #[{ on := 2, ground := Ground.data }], guard := none }) (d := 76) (v := .slice (some ⟨w17.heap.size, 0, none⟩) 1 1) (w' := w17.alloc (.cells #[.int .i64 (x10 : Int)] 3)) hF rfl rfl (by decide) (fun a' hA => wanted_none rfl) (fun a' hA => by have e70 := hA.get 75 rfl; have ec : ∀ v, a'.eval (.const v) = v := fun _ => rfl; clear hA; generalize a'.eval = ρ at *; simp [go_sem, ec, e70]; try rfl) ?_
          clear hF
          intro hF
          clear ST19
          generalize w17.alloc (.cells #[.int .i64 (x10 : Int)] 3) = w20 at *
          generalize hgz20 : w17.heap.size = g20 at *
          have ST20 := STn
          clear STn
          have hS : (fun W : World => W.heap[bx]? = some (.cells #[.pointer (some ⟨S.g, 0, none⟩)] 56 (0, 0)) ∧ W.heap[byy]? = some (.cells #[.int .i64 (at_ : Int)] 3 (0, 0))) w20 := ⟨(ST20.out.x (bx, Obj.cells #[.pointer (some ⟨S.g, 0, none⟩)] 56 (0, 0)) (by simp)).1, (ST20.out.x (byy, Obj.cells #[.int .i64 (at_ : Int)] 3 (0, 0)) (by simp)).1⟩
          refine ⟨fun _ => hS, ?_⟩
          refine wpTill_alone 6 (by kernel_rfl) ?_
          have hys : ∀ u ∈ [y17], u.Lies w20 ∧ u.On (fun q => (w.alloc boxZ).heap.size ≤ q) := (List.forall_mem_cons.2 ⟨HY21.out, (fun _ h => nomatch h)⟩)
          have hnew : St S _ d _ (w20.alloc (.cells #[.int .i64 y17.h.k, .int .i64 y17.h.m, .int .i64 y17.h.f, .int .i64 y17.h.t, .slice y17.h.np y17.h.nn y17.h.nc, .slice y17.h.kp y17.h.kn y17.h.kc] 26)) _ := ST20.out.newK [y17] (by simp) hys
          clear hys
          have HY23 := Lib.hid (And.intro (HY21.out.1.step _ ((Below.refl w20.heap.size w20).alloc (Nat.le_refl _) (.cells #[.int .i64 y17.h.k, .int .i64 y17.h.m, .int .i64 y17.h.f, .int .i64 y17.h.t, .slice y17.h.np y17.h.nn y17.h.nc, .slice y17.h.kp y17.h.kn y17.h.kc] 26))) HY21.out.2)
          have STn := Lib.hid hnew
          clear hnew hS
          refine make_op 6 (oi := { dst := some 79, op := Op.buildSlice 24 1 #[(0, Operand.tmp 78)], type := 24, pos := "decs.go:73", after := #[{ on := 5, ground := Ground.data }], guard := none }) (d := 79) (v := .slice (some ⟨w20.heap.size, 0, none⟩) 1 1) (w' := w20.alloc (.cells #[.int .i64 y17.h.k, .int .i64 y17.h.m, .int .i64 y17.h.f, .int .i64 y17.h.t, .slice y17.h.np y17.h.nn y17.h.nc, .slice y17.h.kp y17.h.kn y17.h.kc] 26)) hF rfl rfl (by decide) (fun a' hA => wanted_none rfl) (fun a' hA => by have e73 := hA.get 78 rfl; have ec : ∀ v, a'.eval (.const v) = v := fun _ => rfl; clear hA; generalize a'.eval = ρ at *; simp [go_sem, ec, e73]; try rfl) ?_
          clear hF
          intro hF
          clear ST20
          generalize w20.alloc (.cells #[.int .i64 y17.h.k, .int .i64 y17.h.m, .int .i64 y17.h.f, .int .i64 y17.h.t, .slice y17.h.np y17.h.nn y17.h.nc, .slice y17.h.kp y17.h.kn y17.h.kc] 26) = w22 at *
          generalize hgz22 : w20.heap.size = g22 at *
          have ST22 := STn
          clear STn
          have hS : (fun W : World => W.heap[bx]? = some (.cells #[.pointer (some ⟨S.g, 0, none⟩)] 56 (0, 0)) ∧ W.heap[byy]? = some (.cells #[.int .i64 (at_ : Int)] 3 (0, 0))) w22 := ⟨(ST22.out.x (bx, Obj.cells #[.pointer (some ⟨S.g, 0, none⟩)] 56 (0, 0)) (by simp)).1, (ST22.out.x (byy, Obj.cells #[.int .i64 (at_ : Int)] 3 (0, 0)) (by simp)).1⟩
          refine ⟨fun _ => hS, ?_⟩
          refine wpTill_alone 7 (by kernel_rfl) ?_
          have HT := Lib.hid (rbranch_any S (n17) d 11 (n : Nat) (some ⟨g20, 0, none⟩) 1 1 (some ⟨g22, 0, none⟩) 1 1 _ ST22.out.rd)
          refine call_op 7 (oi := { dst := some 80, op := Op.call { callee := Callee.value (Operand.func 38), args := #[Operand.tmp 73, Operand.const (Value.int IntKind.i64 11), Operand.tmp 74, Operand.tmp 76, Operand.tmp 79], argTypes := #[56, 3, 3, 23, 24] }, type := 26, pos := "decs.go:73", after := #[{ on := 0, ground := Ground.data }, { on := 1, ground := Ground.data }, { on := 3, ground := Ground.data }, { on := 6, ground := Ground.data }, { on := 5, ground := Ground.chain }], guard := none }) (d := 80) (R := fun e w' => e = .returned (.agg #[.int .i64 11, .int .i64 0, .int .i64 (n : Int), .int .i64 (n17 : Int), .slice (some ⟨g20, 0, none⟩) 1 1, .slice (some ⟨g22, 0, none⟩) 1 1]) ∧ Below w22.heap.size w22 w') hF rfl rfl (by decide) (fun a' hA => wanted_none rfl) (fun a' hA => by have e68 := hA.get 73 rfl; have e69 := hA.get 74 rfl; have e71 := hA.get 76 rfl; have e74 := hA.get 79 rfl; have ef : ∀ f, a'.eval (.func f) = .func (.func f) #[] #[] := fun _ => rfl; have ec : ∀ v, a'.eval (.const v) = v := fun _ => rfl; clear hA; generalize a'.eval = ρ at *; simp [go_sem, ef, ec, e68, e69, e71, e74]) HT.out (by rintro w' ⟨h, _⟩; cases h) ?_ ?_
          ·rintro ch w' ⟨h, _⟩
           cases h
          rintro v w24 ⟨h, hb⟩
          have h := Ending.returned.inj h
          subst h
          intro hF2
          clear hF hS
          have hF := hF2
          clear hF2
          have ST24 := Lib.hid (ST22.out.below hb)
          clear hb ST22 HT
          have hS : (fun W : World => W.heap[bx]? = some (.cells #[.pointer (some ⟨S.g, 0, none⟩)] 56 (0, 0)) ∧ W.heap[byy]? = some (.cells #[.int .i64 (at_ : Int)] 3 (0, 0))) w24 := ⟨(ST24.out.x (bx, Obj.cells #[.pointer (some ⟨S.g, 0, none⟩)] 56 (0, 0)) (by simp)).1, (ST24.out.x (byy, Obj.cells #[.int .i64 (at_ : Int)] 3 (0, 0)) (by simp)).1⟩
          refine ⟨fun _ => hS, ?_⟩
          refine wpTill_alone 8 (by kernel_rfl) ?_
          have FIN := Lib.hid (ST24.out.fin (k := 11) (m := 0) (f := n) hgl hgwl (ST24.out.ns (.slice (some ⟨g20, 0, none⟩) 1 1, [x10]) (by simp)) (ST24.out.ks (.slice (some ⟨g22, 0, none⟩) 1 1, [y17]) (by simp)) EQ18.out)
          refine store_op 8 (oi := { dst := none, op := Op.store 26 (Operand.tmp 4) (Operand.tmp 80), type := 0, pos := "decs.go:73", after := #[{ on := 7, ground := Ground.data }, { on := 7, ground := Ground.chain }, { on := 0, ground := Ground.phase }, { on := 1, ground := Ground.phase }, { on := 2, ground := Ground.phase }, { on := 3, ground := Ground.phase }, { on := 4, ground := Ground.phase }, { on := 5, ground := Ground.phase }, { on := 6, ground := Ground.phase }, { on := 7, ground := Ground.phase }], guard := none }) (w' := ((((((w24.setCell ⟨w.heap.size, 0, none⟩ (.int .i64 11)).setCell ⟨w.heap.size, 1, none⟩ (.int .i64 0)).setCell ⟨w.heap.size, 2, none⟩ (.int .i64 (n : Int))).setCell ⟨w.heap.size, 3, none⟩ (.int .i64 (n17 : Int))).setCell ⟨w.heap.size, 4, none⟩ (.slice (some ⟨g20, 0, none⟩) 1 1)).setCell ⟨w.heap.size, 5, none⟩ (.slice (some ⟨g22, 0, none⟩) 1 1))) hF rfl rfl (fun a' hA => wanted_none rfl) (fun a' hA => ?_) ?_
          ·have e1 := hA.get 4 rfl
           have e2 := hA.get 80 rfl
           have c0 := FIN.out.c0
           have c1 := FIN.out.c1
           have c2 := FIN.out.c2
           have c3 := FIN.out.c3
           have c4 := FIN.out.c4
           have c5 := FIN.out.c5
           have f0 := FIN.out.fz 0
           have f1 := FIN.out.fz 1
           have f2 := FIN.out.fz 2
           have f3 := FIN.out.fz 3
           have f4 := FIN.out.fz 4
           have f5 := FIN.out.fz 5
           clear hA hF
           generalize a'.eval = ρ at *
           simp [go_sem, e1, e2, c0, c1, c2, c3, c4, c5, f0, f1, f2, f3, f4, f5]
          refine ⟨fun h => absurd h (by decide), ?_⟩
          refine wpTill_done (by kernel_rfl) ?_ _
          subst ha0
          simp only [Act.put, List.setIfInBounds_toArray, List.set_cons_zero, List.set_cons_succ]
          clear hF hS ST24 EQ18
          go_wp2_with fail
          obtain ⟨_, _, _, _, _, _, _, d0, d1, d2, d3, d4, d5, hfin⟩ := FIN.out
          refine bodyPost_ret (by simp [results, Tryz.results82, go_sem, d0, d1, d2, d3, d4, d5, Result.andThen]; try rfl) rfl ?_
          exact hfin
         ·have hys : ∀ u ∈ [y17], u.Lies w17 ∧ u.On (fun q => (w.alloc boxZ).heap.size ≤ q) := (List.forall_mem_cons.2 ⟨HY17.out, (fun _ h => nomatch h)⟩)
          have hnew : St S _ d _ (w17.alloc (.cells #[.int .i64 y17.h.k, .int .i64 y17.h.m, .int .i64 y17.h.f, .int .i64 y17.h.t, .slice y17.h.np y17.h.nn y17.h.nc, .slice y17.h.kp y17.h.kn y17.h.kc] 26)) _ := ST19.out.newK [y17] (by simp) hys
          clear hys
          have HY21 := Lib.hid (And.intro (HY17.out.1.step _ ((Below.refl w17.heap.size w17).alloc (Nat.le_refl _) (.cells #[.int .i64 y17.h.k, .int .i64 y17.h.m, .int .i64 y17.h.f, .int .i64 y17.h.t, .slice y17.h.np y17.h.nn y17.h.nc, .slice y17.h.kp y17.h.kn y17.h.kc] 26))) HY17.out.2)
          have STn := Lib.hid hnew
          clear hnew hS
          refine make_op 6 (oi := { dst := some 79, op := Op.buildSlice 24 1 #[(0, Operand.tmp 78)], type := 24, pos := "decs.go:73", after := #[{ on := 5, ground := Ground.data }], guard := none }) (d := 79) (v := .slice (some ⟨w17.heap.size, 0, none⟩) 1 1) (w' := w17.alloc (.cells #[.int .i64 y17.h.k, .int .i64 y17.h.m, .int .i64 y17.h.f, .int .i64 y17.h.t, .slice y17.h.np y17.h.nn y17.h.nc, .slice y17.h.kp y17.h.kn y17.h.kc] 26)) hF rfl rfl (by decide) (fun a' hA => wanted_none rfl) (fun a' hA => by have e73 := hA.get 78 rfl; have ec : ∀ v, a'.eval (.const v) = v := fun _ => rfl; clear hA; generalize a'.eval = ρ at *; simp [go_sem, ec, e73]; try rfl) ?_
          clear hF
          intro hF
          clear ST19
          generalize w17.alloc (.cells #[.int .i64 y17.h.k, .int .i64 y17.h.m, .int .i64 y17.h.f, .int .i64 y17.h.t, .slice y17.h.np y17.h.nn y17.h.nc, .slice y17.h.kp y17.h.kn y17.h.kc] 26) = w20 at *
          generalize hgz20 : w17.heap.size = g20 at *
          have ST20 := STn
          clear STn
          have hS : (fun W : World => W.heap[bx]? = some (.cells #[.pointer (some ⟨S.g, 0, none⟩)] 56 (0, 0)) ∧ W.heap[byy]? = some (.cells #[.int .i64 (at_ : Int)] 3 (0, 0))) w20 := ⟨(ST20.out.x (bx, Obj.cells #[.pointer (some ⟨S.g, 0, none⟩)] 56 (0, 0)) (by simp)).1, (ST20.out.x (byy, Obj.cells #[.int .i64 (at_ : Int)] 3 (0, 0)) (by simp)).1⟩
          refine ⟨fun _ => hS, ?_⟩
          refine wpTill_alone 3 (by kernel_rfl) ?_
          have hnew : St S _ d _ (w20.alloc (.cells #[.int .i64 (x10 : Int)] 3)) _ := ST20.out.newN [x10] (by simp)
          have HY23 := Lib.hid (And.intro (HY21.out.1.step _ ((Below.refl w20.heap.size w20).alloc (Nat.le_refl _) (.cells #[.int .i64 (x10 : Int)] 3))) HY21.out.2)
          have STn := Lib.hid hnew
          clear hnew hS
          refine make_op 3 (oi := { dst := some 76, op := Op.buildSlice 23 1 #[(0, Operand.tmp 75)], type := 23, pos := "decs.go:73", after := #[{ on := 2, ground := Ground.data }], guard := none }) (d := 76) (v := .slice (some ⟨w20.heap.size, 0, none⟩) 1 1) (w' := w20.alloc (.cells #[.int .i64 (x10 : Int)] 3)) hF rfl rfl (by decide) (fun a' hA => wanted_none rfl) (fun a' hA => by have e70 := hA.get 75 rfl; have ec : ∀ v, a'.eval (.const v) = v := fun _ => rfl; clear hA; generalize a'.eval = ρ at *; simp [go_sem, ec, e70]; try rfl) ?_
          clear hF
          intro hF
          clear ST20
          generalize w20.alloc (.cells #[.int .i64 (x10 : Int)] 3) = w22 at *
          generalize hgz22 : w20.heap.size = g22 at *
          have ST22 := STn
          clear STn
          have hS : (fun W : World => W.heap[bx]? = some (.cells #[.pointer (some ⟨S.g, 0, none⟩)] 56 (0, 0)) ∧ W.heap[byy]? = some (.cells #[.int .i64 (at_ : Int)] 3 (0, 0))) w22 := ⟨(ST22.out.x (bx, Obj.cells #[.pointer (some ⟨S.g, 0, none⟩)] 56 (0, 0)) (by simp)).1, (ST22.out.x (byy, Obj.cells #[.int .i64 (at_ : Int)] 3 (0, 0)) (by simp)).1⟩
          refine ⟨fun _ => hS, ?_⟩
          refine wpTill_alone 7 (by kernel_rfl) ?_
          have HT := Lib.hid (rbranch_any S (n17) d 11 (n : Nat) (some ⟨g22, 0, none⟩) 1 1 (some ⟨g20, 0, none⟩) 1 1 _ ST22.out.rd)
          refine call_op 7 (oi := { dst := some 80, op := Op.call { callee := Callee.value (Operand.func 38), args := #[Operand.tmp 73, Operand.const (Value.int IntKind.i64 11), Operand.tmp 74, Operand.tmp 76, Operand.tmp 79], argTypes := #[56, 3, 3, 23, 24] }, type := 26, pos := "decs.go:73", after := #[{ on := 0, ground := Ground.data }, { on := 1, ground := Ground.data }, { on := 3, ground := Ground.data }, { on := 6, ground := Ground.data }, { on := 5, ground := Ground.chain }], guard := none }) (d := 80) (R := fun e w' => e = .returned (.agg #[.int .i64 11, .int .i64 0, .int .i64 (n : Int), .int .i64 (n17 : Int), .slice (some ⟨g22, 0, none⟩) 1 1, .slice (some ⟨g20, 0, none⟩) 1 1]) ∧ Below w22.heap.size w22 w') hF rfl rfl (by decide) (fun a' hA => wanted_none rfl) (fun a' hA => by have e68 := hA.get 73 rfl; have e69 := hA.get 74 rfl; have e71 := hA.get 76 rfl; have e74 := hA.get 79 rfl; have ef : ∀ f, a'.eval (.func f) = .func (.func f) #[] #[] := fun _ => rfl; have ec : ∀ v, a'.eval (.const v) = v := fun _ => rfl; clear hA; generalize a'.eval = ρ at *; simp [go_sem, ef, ec, e68, e69, e71, e74]) HT.out (by rintro w' ⟨h, _⟩; cases h) ?_ ?_
          ·rintro ch w' ⟨h, _⟩
           cases h
          rintro v w24 ⟨h, hb⟩
          have h := Ending.returned.inj h
          subst h
          intro hF2
          clear hF hS
          have hF := hF2
          clear hF2
          have ST24 := Lib.hid (ST22.out.below hb)
          clear hb ST22 HT
          have hS : (fun W : World => W.heap[bx]? = some (.cells #[.pointer (some ⟨S.g, 0, none⟩)] 56 (0, 0)) ∧ W.heap[byy]? = some (.cells #[.int .i64 (at_ : Int)] 3 (0, 0))) w24 := ⟨(ST24.out.x (bx, Obj.cells #[.pointer (some ⟨S.g, 0, none⟩)] 56 (0, 0)) (by simp)).1, (ST24.out.x (byy, Obj.cells #[.int .i64 (at_ : Int)] 3 (0, 0)) (by simp)).1⟩
          refine ⟨fun _ => hS, ?_⟩
          refine wpTill_alone 8 (by kernel_rfl) ?_
          have FIN := Lib.hid (ST24.out.fin (k := 11) (m := 0) (f := n) hgl hgwl (ST24.out.ns (.slice (some ⟨g22, 0, none⟩) 1 1, [x10]) (by simp)) (ST24.out.ks (.slice (some ⟨g20, 0, none⟩) 1 1, [y17]) (by simp)) EQ18.out)
          refine store_op 8 (oi := { dst := none, op := Op.store 26 (Operand.tmp 4) (Operand.tmp 80), type := 0, pos := "decs.go:73", after := #[{ on := 7, ground := Ground.data }, { on := 7, ground := Ground.chain }, { on := 0, ground := Ground.phase }, { on := 1, ground := Ground.phase }, { on := 2, ground := Ground.phase }, { on := 3, ground := Ground.phase }, { on := 4, ground := Ground.phase }, { on := 5, ground := Ground.phase }, { on := 6, ground := Ground.phase }, { on := 7, ground := Ground.phase }], guard := none }) (w' := ((((((w24.setCell ⟨w.heap.size, 0, none⟩ (.int .i64 11)).setCell ⟨w.heap.size, 1, none⟩ (.int .i64 0)).setCell ⟨w.heap.size, 2, none⟩ (.int .i64 (n : Int))).setCell ⟨w.heap.size, 3, none⟩ (.int .i64 (n17 : Int))).setCell ⟨w.heap.size, 4, none⟩ (.slice (some ⟨g22, 0, none⟩) 1 1)).setCell ⟨w.heap.size, 5, none⟩ (.slice (some ⟨g20, 0, none⟩) 1 1))) hF rfl rfl (fun a' hA => wanted_none rfl) (fun a' hA => ?_) ?_
          ·have e1 := hA.get 4 rfl
           have e2 := hA.get 80 rfl
           have c0 := FIN.out.c0
           have c1 := FIN.out.c1
           have c2 := FIN.out.c2
           have c3 := FIN.out.c3
           have c4 := FIN.out.c4
           have c5 := FIN.out.c5
           have f0 := FIN.out.fz 0
           have f1 := FIN.out.fz 1
           have f2 := FIN.out.fz 2
           have f3 := FIN.out.fz 3
           have f4 := FIN.out.fz 4
           have f5 := FIN.out.fz 5
           clear hA hF
           generalize a'.eval = ρ at *
           simp [go_sem, e1, e2, c0, c1, c2, c3, c4, c5, f0, f1, f2, f3, f4, f5]
          refine ⟨fun h => absurd h (by decide), ?_⟩
          refine wpTill_done (by kernel_rfl) ?_ _
          subst ha0
          simp only [Act.put, List.setIfInBounds_toArray, List.set_cons_zero, List.set_cons_succ]
          clear hF hS ST24 EQ18
          go_wp2_with fail
          obtain ⟨_, _, _, _, _, _, _, d0, d1, d2, d3, d4, d5, hfin⟩ := FIN.out
          refine bodyPost_ret (by simp [results, Tryz.results82, go_sem, d0, d1, d2, d3, d4, d5, Result.andThen]; try rfl) rfl ?_
          exact hfin
      ·have e6 := EQ5.out
       simp only [h4, cond_true] at e6
       have EQ6 := Lib.hid e6
       clear e6 EQ5
       have t0 := is_tx h0
       have t1 := is_tx h1
       have t2 := is_tx h2
       have t3 := is_tx h3
       have t4 := is_tx h4
       go_enter Tryz.func82, Tryz.ntmps82
       go_upto_region 1 with fail
       have qx0 := ST0.out.xc (b := bx) (v := .pointer (some ⟨S.g, 0, none⟩)) (T := 56) (by simp)
       have qx1 := ST0.out.xc (b := byy) (v := .int .i64 (at_ : Int)) (T := 3) (by simp)
       go_region_held3 (fun w' => w'.cell? ⟨bx, 0, none⟩ = some (.pointer (some ⟨S.g, 0, none⟩)) ∧ w'.cell? ⟨byy, 0, none⟩ = some (.int .i64 (at_ : Int))) (first | exact ⟨qx0, qx1⟩ | exact HKP.out _ (Below.refl _ _).drew | exact HKP.out _ HBA.out | exact HKP.out _ HBA.out.drew | exact HKP.out _ HBB.out | exact HKP.out _ HBB.out.drew | go_keep) (first | (go_at_call 59; (with_reducible refine Calls.mono (HDC.out _ (by first | exact Below.refl _ _ | exact (Below.refl _ _).drew)) ?_); rintro e wa ⟨rfl, hba⟩; have HBA := Lib.hid hba; clear hba) | (go_at_call 36; (with_reducible refine Calls.mono (HEX.out _ (by first | exact HBA.out | exact HBA.out.drew)) ?_); rintro e wb ⟨rfl, hbb⟩; have HBB := Lib.hid hbb; clear hbb))
       clear qx0 qx1
       have STb := Lib.hid (ST0.out.below HBB.out)
       have STm := Lib.hid (STb.out.moved (n + 1) hn1 ((n : Int) + 1) (by omega))
       have q2 := STb.out.rd.c2
       have fz2 := STb.out.rd.free 2
       have qx0 := STb.out.xc (b := bx) (v := .pointer (some ⟨S.g, 0, none⟩)) (T := 56) (by simp)
       have qm0 := STm.out.xc (b := bx) (v := .pointer (some ⟨S.g, 0, none⟩)) (T := 56) (by simp)
       have qx1 := STb.out.xc (b := byy) (v := .int .i64 (at_ : Int)) (T := 3) (by simp)
       have qm1 := STm.out.xc (b := byy) (v := .int .i64 (at_ : Int)) (T := 3) (by simp)
       have HP := Lib.hid (rtext_any S (n + 1) d (n) _ STm.out.rd hn0)
       go_wp2_with fail
       refine HP.out.mono ?_
       rintro e w7 ⟨rfl, hb⟩
       have ST8 := Lib.hid (STm.out.below hb)
       clear hb STm HP
       clear q2 fz2 qx0 qm0 qx1 qm1
       have qx0 := ST8.out.xc (b := bx) (v := .pointer (some ⟨S.g, 0, none⟩)) (T := 56) (by simp)
       have qx1 := ST8.out.xc (b := byy) (v := .int .i64 (at_ : Int)) (T := 3) (by simp)
       have HC := Lib.hid (structure_any S F rec d HS.out hF0 n ((n + 1)) _ ST8.out.rd (by rw [← EQ6.out]; exact HD.out))
       go_wp2_with fail
       refine HC.out.mono ?_
       rintro e w9 (⟨x9, n9, v9, hpo, rfl, ⟨y9, hv, hyl, hyo, rfl⟩, hr, hg⟩ | ⟨ch, ho, rfl, hg⟩)
       rotate_left
       ·exact ⟨rfl, Or.inr ⟨ch, by rw [EQ6.out]; exact ho, rfl, ST8.out.pan hg⟩⟩
       have EQ10 := Lib.hid (EQ6.out.trans hpo)
       clear EQ6
       have HY9 := Lib.hid (And.intro hyl (hyo.mono (fun q hq => Nat.le_trans ST8.out.size hq) _))
       simp only [Hd.val] at hv
       subst hv
       have ST11 := Lib.hid (ST8.out.grow hr hg)
       clear hr hg ST8 hyl hyo hpo HC
       clear qx0 qx1
       have qx0 := ST11.out.xc (b := bx) (v := .pointer (some ⟨S.g, 0, none⟩)) (T := 56) (by simp)
       have qx1 := ST11.out.xc (b := byy) (v := .int .i64 (at_ : Int)) (T := 3) (by simp)
       have FIN := Lib.hid (ST11.out.finY hgl hgwl HY9.out.1 HY9.out.2 EQ10.out)
       clear ST11 HY9 EQ10
       clear qx0 qx1
       have c0 := FIN.out.c0
       have c1 := FIN.out.c1
       have c2 := FIN.out.c2
       have c3 := FIN.out.c3
       have c4 := FIN.out.c4
       have c5 := FIN.out.c5
       have f0 := FIN.out.fz 0
       have f1 := FIN.out.fz 1
       have f2 := FIN.out.fz 2
       have f3 := FIN.out.fz 3
       have f4 := FIN.out.fz 4
       have f5 := FIN.out.fz 5
       go_wp2_with fail
       obtain ⟨_, _, _, _, _, _, _, d0, d1, d2, d3, d4, d5, hfin⟩ := FIN.out
       refine bodyPost_ret (by simp [results, Tryz.results82, go_sem, d0, d1, d2, d3, d4, d5, Result.andThen]; try rfl) rfl ?_
       exact hfin
     ·have e5 := EQ4.out
      simp only [h3, cond_true] at e5
      have EQ5 := Lib.hid e5
      clear e5 EQ4
      have t0 := is_tx h0
      have t1 := is_tx h1
      have t2 := is_tx h2
      have t3 := is_tx h3
      go_enter Tryz.func82, Tryz.ntmps82
      go_upto_region 1 with fail
      have qx0 := ST0.out.xc (b := bx) (v := .pointer (some ⟨S.g, 0, none⟩)) (T := 56) (by simp)
      have qx1 := ST0.out.xc (b := byy) (v := .int .i64 (at_ : Int)) (T := 3) (by simp)
      go_region_held3 (fun w' => w'.cell? ⟨bx, 0, none⟩ = some (.pointer (some ⟨S.g, 0, none⟩)) ∧ w'.cell? ⟨byy, 0, none⟩ = some (.int .i64 (at_ : Int))) (first | exact ⟨qx0, qx1⟩ | exact HKP.out _ (Below.refl _ _).drew | exact HKP.out _ HBA.out | exact HKP.out _ HBA.out.drew | exact HKP.out _ HBB.out | exact HKP.out _ HBB.out.drew | go_keep) (first | (go_at_call 59; (with_reducible refine Calls.mono (HDC.out _ (by first | exact Below.refl _ _ | exact (Below.refl _ _).drew)) ?_); rintro e wa ⟨rfl, hba⟩; have HBA := Lib.hid hba; clear hba) | (go_at_call 36; (with_reducible refine Calls.mono (HEX.out _ (by first | exact HBA.out | exact HBA.out.drew)) ?_); rintro e wb ⟨rfl, hbb⟩; have HBB := Lib.hid hbb; clear hbb))
      clear qx0 qx1
      have STb := Lib.hid (ST0.out.below HBB.out)
      have STm := Lib.hid (STb.out.moved (n + 1) hn1 ((n : Int) + 1) (by omega))
      have q2 := STb.out.rd.c2
      have fz2 := STb.out.rd.free 2
      have qx0 := STb.out.xc (b := bx) (v := .pointer (some ⟨S.g, 0, none⟩)) (T := 56) (by simp)
      have qm0 := STm.out.xc (b := bx) (v := .pointer (some ⟨S.g, 0, none⟩)) (T := 56) (by simp)
      have qx1 := STb.out.xc (b := byy) (v := .int .i64 (at_ : Int)) (T := 3) (by simp)
      have qm1 := STm.out.xc (b := byy) (v := .int .i64 (at_ : Int)) (T := 3) (by simp)
      have HP := Lib.hid (rtext_any S (n + 1) d (n) _ STm.out.rd hn0)
      go_wp2_with fail
      refine HP.out.mono ?_
      rintro e w6 ⟨rfl, hb⟩
      have ST7 := Lib.hid (STm.out.below hb)
      clear hb STm HP
      clear q2 fz2 qx0 qm0 qx1 qm1
      have qx0 := ST7.out.xc (b := bx) (v := .pointer (some ⟨S.g, 0, none⟩)) (T := 56) (by simp)
      have qx1 := ST7.out.xc (b := byy) (v := .int .i64 (at_ : Int)) (T := 3) (by simp)
      have HC := Lib.hid (datatypesAll S F rec d HS.out hF0 n ((n + 1)) _ ST7.out.rd (by rw [← EQ5.out]; exact HD.out))
      go_wp2_with fail
      refine HC.out.mono ?_
      rintro e w8 (⟨x8, n8, v8, hpo, rfl, ⟨y8, hv, hyl, hyo, rfl⟩, hr, hg⟩ | ⟨ch, ho, rfl, hg⟩)
      rotate_left
      ·exact ⟨rfl, Or.inr ⟨ch, by rw [EQ5.out]; exact ho, rfl, ST7.out.pan hg⟩⟩
      have EQ9 := Lib.hid (EQ5.out.trans hpo)
      clear EQ5
      have HY8 := Lib.hid (And.intro hyl (hyo.mono (fun q hq => Nat.le_trans ST7.out.size hq) _))
      simp only [Hd.val] at hv
      subst hv
      have ST10 := Lib.hid (ST7.out.grow hr hg)
      clear hr hg ST7 hyl hyo hpo HC
      clear qx0 qx1
      have qx0 := ST10.out.xc (b := bx) (v := .pointer (some ⟨S.g, 0, none⟩)) (T := 56) (by simp)
      have qx1 := ST10.out.xc (b := byy) (v := .int .i64 (at_ : Int)) (T := 3) (by simp)
      have FIN := Lib.hid (ST10.out.finY hgl hgwl HY8.out.1 HY8.out.2 EQ9.out)
      clear ST10 HY8 EQ9
      clear qx0 qx1
      have c0 := FIN.out.c0
      have c1 := FIN.out.c1
      have c2 := FIN.out.c2
      have c3 := FIN.out.c3
      have c4 := FIN.out.c4
      have c5 := FIN.out.c5
      have f0 := FIN.out.fz 0
      have f1 := FIN.out.fz 1
      have f2 := FIN.out.fz 2
      have f3 := FIN.out.fz 3
      have f4 := FIN.out.fz 4
      have f5 := FIN.out.fz 5
      go_wp2_with fail
      obtain ⟨_, _, _, _, _, _, _, d0, d1, d2, d3, d4, d5, hfin⟩ := FIN.out
      refine bodyPost_ret (by simp [results, Tryz.results82, go_sem, d0, d1, d2, d3, d4, d5, Result.andThen]; try rfl) rfl ?_
      exact hfin
    ·have e4 := EQ3.out
     simp only [h2, cond_true] at e4
     have EQ4 := Lib.hid e4
     clear e4 EQ3
     have t0 := is_tx h0
     have t1 := is_tx h1
     have t2 := is_tx h2
     go_enter Tryz.func82, Tryz.ntmps82
     go_upto_region 1 with fail
     have qx0 := ST0.out.xc (b := bx) (v := .pointer (some ⟨S.g, 0, none⟩)) (T := 56) (by simp)
     have qx1 := ST0.out.xc (b := byy) (v := .int .i64 (at_ : Int)) (T := 3) (by simp)
     go_region_held3 (fun w' => w'.cell? ⟨bx, 0, none⟩ = some (.pointer (some ⟨S.g, 0, none⟩)) ∧ w'.cell? ⟨byy, 0, none⟩ = some (.int .i64 (at_ : Int))) (first | exact ⟨qx0, qx1⟩ | exact HKP.out _ (Below.refl _ _).drew | exact HKP.out _ HBA.out | exact HKP.out _ HBA.out.drew | exact HKP.out _ HBB.out | exact HKP.out _ HBB.out.drew | go_keep) (first | (go_at_call 59; (with_reducible refine Calls.mono (HDC.out _ (by first | exact Below.refl _ _ | exact (Below.refl _ _).drew)) ?_); rintro e wa ⟨rfl, hba⟩; have HBA := Lib.hid hba; clear hba) | (go_at_call 36; (with_reducible refine Calls.mono (HEX.out _ (by first | exact HBA.out | exact HBA.out.drew)) ?_); rintro e wb ⟨rfl, hbb⟩; have HBB := Lib.hid hbb; clear hbb))
     clear qx0 qx1
     have STb := Lib.hid (ST0.out.below HBB.out)
     have STm := Lib.hid (STb.out.moved (n + 1) hn1 ((n : Int) + 1) (by omega))
     have q2 := STb.out.rd.c2
     have fz2 := STb.out.rd.free 2
     have qx0 := STb.out.xc (b := bx) (v := .pointer (some ⟨S.g, 0, none⟩)) (T := 56) (by simp)
     have qm0 := STm.out.xc (b := bx) (v := .pointer (some ⟨S.g, 0, none⟩)) (T := 56) (by simp)
     have qx1 := STb.out.xc (b := byy) (v := .int .i64 (at_ : Int)) (T := 3) (by simp)
     have qm1 := STm.out.xc (b := byy) (v := .int .i64 (at_ : Int)) (T := 3) (by simp)
     have HP := Lib.hid (rtext_any S (n + 1) d (n) _ STm.out.rd hn0)
     go_wp2_with fail
     refine HP.out.mono ?_
     rintro e w5 ⟨rfl, hb⟩
     have ST6 := Lib.hid (STm.out.below hb)
     clear hb STm HP
     clear q2 fz2 qx0 qm0 qx1 qm1
     have qx0 := ST6.out.xc (b := bx) (v := .pointer (some ⟨S.g, 0, none⟩)) (T := 56) (by simp)
     have qx1 := ST6.out.xc (b := byy) (v := .int .i64 (at_ : Int)) (T := 3) (by simp)
     have HC := Lib.hid (typeName_any S F ((n + 1)) d hF0 _ ST6.out.rd (bind_dry (by rw [← EQ4.out]; exact HD.out)))
     go_wp2_with fail
     refine HC.out.mono ?_
     rintro e w7 (⟨x7, n7, v7, hpo, rfl, hv, hr, hg⟩ | ⟨ch, ho, rfl, hg⟩)
     rotate_left
     ·exact ⟨rfl, Or.inr ⟨ch, by rw [EQ4.out]; exact pan_bind (ho), rfl, ST6.out.pan hg⟩⟩
     have e8 := EQ4.out
     rw [show _ = Out.ok _ _ from hpo, bind_ok] at e8
     have EQ8 := Lib.hid e8
     clear e8 EQ4
     have hz := ST6.out.size
     have ho := own_base hv hz
     obtain ⟨p7, cp7, rfl⟩ := own_form hv
     have ST9 := Lib.hid ((ST6.out.grow hr hg).addN (l := [x7]) ho)
     clear hr hg ST6 hv ho hz hpo HC
     clear qx0 qx1
     have qx0 := ST9.out.xc (b := bx) (v := .pointer (some ⟨S.g, 0, none⟩)) (T := 56) (by simp)
     have qx1 := ST9.out.xc (b := byy) (v := .int .i64 (at_ : Int)) (T := 3) (by simp)
     have HC := Lib.hid (rneed_any S ((n7)) d ⟨#[61]⟩ _ ST9.out.rd (by simp))
     go_wp2_with fail
     refine HC.out.mono ?_
     rintro e w10 (⟨x10, n10, v10, hpo, rfl, hv, hr, hg⟩ | ⟨ch, ho, rfl, hg⟩)
     rotate_left
     ·exact ⟨rfl, Or.inr ⟨ch, by rw [EQ8.out]; exact pan_bind (ho), rfl, ST9.out.pan hg⟩⟩
     have e11 := EQ8.out
     rw [show _ = Out.ok _ _ from hpo, bind_ok] at e11
     have EQ11 := Lib.hid e11
     clear e11 EQ8
     obtain rfl : v10 = .tuple #[] := hv
     have ST12 := Lib.hid (ST9.out.grow hr hg)
     clear hr hg ST9 hpo HC
     clear qx0 qx1
     have qx0 := ST12.out.xc (b := bx) (v := .pointer (some ⟨S.g, 0, none⟩)) (T := 56) (by simp)
     have qx1 := ST12.out.xc (b := byy) (v := .int .i64 (at_ : Int)) (T := 3) (by simp)
     go_wp2_with fail
     refine wp_region_till (fun W : World => W.heap[bx]? = some (.cells #[.pointer (some ⟨S.g, 0, none⟩)] 56 (0, 0)) ∧ W.heap[byy]? = some (.cells #[.int .i64 (at_ : Int)] 3 (0, 0))) 7 (by kernel_rfl) ?_
     have STd := Lib.hid (ST12.out.below (Below.refl w10.heap.size w10).drew)
     refine start_fp (N := 98) [(0, .int .i64 (n : Int)), (1, .pointer (some ⟨bx, 0, none⟩)), (2, .pointer (some ⟨byy, 0, none⟩)), (4, .pointer (some ⟨w.heap.size, 0, none⟩)), (6, .slice p7 1 cp7)] (Fs.of rfl rfl (by simp [Act.eval])) ?_
     intro a0 ha0 hF
     clear ST12 qx0 qx1
     generalize w10.drew = w13 at *
     have hS : (fun W : World => W.heap[bx]? = some (.cells #[.pointer (some ⟨S.g, 0, none⟩)] 56 (0, 0)) ∧ W.heap[byy]? = some (.cells #[.int .i64 (at_ : Int)] 3 (0, 0))) w13 := ⟨(STd.out.x (bx, Obj.cells #[.pointer (some ⟨S.g, 0, none⟩)] 56 (0, 0)) (by simp)).1, (STd.out.x (byy, Obj.cells #[.int .i64 (at_ : Int)] 3 (0, 0)) (by simp)).1⟩
     refine take_fp 0 [6, 7] (oi := { dst := some 49, op := Op.load 56 (Operand.tmp 1), type := 56, pos := "decs.go:65", after := #[], guard := none }) (d := 49) (v := .pointer (some ⟨S.g, 0, none⟩)) hF hS rfl rfl (by decide) (by kernel_rfl) (by kernel_rfl) (by kernel_rfl) (by kernel_rfl) (fun _ _ _ h => h) (fun a' hA => wanted_none rfl) (fun a' hA w' hw => by have e1 := hA.get 1 rfl; have ec : ∀ v, a'.eval (.const v) = v := fun _ => rfl; have q0 := Lib.cell_of_heap hw.1 0; simp only [List.getElem?_toArray, List.getElem?_cons_zero] at q0; clear hA; generalize a'.eval = ρ at *; simp [go_sem, ec, e1, q0]; try rfl) ?_
     clear hF
     intro hF
     refine take_fp 1 [6, 7] (oi := { dst := some 50, op := Op.move (Operand.tmp 0), type := 3, pos := "decs.go:65", after := #[], guard := none }) (d := 50) (v := .int .i64 (n : Int)) hF hS rfl rfl (by decide) (by kernel_rfl) (by kernel_rfl) (by kernel_rfl) (by kernel_rfl) (fun _ _ _ h => h) (fun a' hA => wanted_none rfl) (run_move_fs rfl rfl) ?_
     clear hF
     intro hF
     refine take_fp 2 [6, 7] (oi := { dst := some 51, op := Op.move (Operand.tmp 6), type := 23, pos := "decs.go:65", after := #[], guard := none }) (d := 51) (v := .slice p7 1 cp7) hF hS rfl rfl (by decide) (by kernel_rfl) (by kernel_rfl) (by kernel_rfl) (by kernel_rfl) (fun _ _ _ h => h) (fun a' hA => wanted_none rfl) (run_move_fs rfl rfl) ?_
     clear hF
     intro hF
     refine take_fp 3 [4, 5, 6, 7] (oi := { dst := some 52, op := Op.load 56 (Operand.tmp 1), type := 56, pos := "decs.go:65", after := #[], guard := none }) (d := 52) (v := .pointer (some ⟨S.g, 0, none⟩)) hF hS rfl rfl (by decide) (by kernel_rfl) (by kernel_rfl) (by kernel_rfl) (by kernel_rfl) (fun _ _ _ h => h) (fun a' hA => wanted_none rfl) (fun a' hA w' hw => by have e1 := hA.get 1 rfl; have ec : ∀ v, a'.eval (.const v) = v := fun _ => rfl; have q0 := Lib.cell_of_heap hw.1 0; simp only [List.getElem?_toArray, List.getElem?_cons_zero] at q0; clear hA; generalize a'.eval = ρ at *; simp [go_sem, ec, e1, q0]; try rfl) ?_
     clear hF
     intro hF
     refine wpTill_alone 4 (by kernel_rfl) ?_
     have HT := Lib.hid (HS.out.ty ((n10)) _ STd.out.rd (bind_dry (by rw [← EQ11.out]; exact HD.out)))
     refine call_op 4 (oi := { dst := some 53, op := Op.call { callee := Callee.value (Operand.func 31), args := #[Operand.tmp 52], argTypes := #[56] }, type := 26, pos := "decs.go:65", after := #[{ on := 3, ground := Ground.data }], guard := none }) (d := 53) (R := fun e w' => Ends S d w13 (rec .ty d ((n10))) (RB w13) e w') hF rfl rfl (by decide) (fun a' hA => wanted_none rfl) (fun a' hA => by have e47 := hA.get 52 rfl; have ef : ∀ f, a'.eval (.func f) = .func (.func f) #[] #[] := fun _ => rfl; have ec : ∀ v, a'.eval (.const v) = v := fun _ => rfl; clear hA; generalize a'.eval = ρ at *; simp [go_sem, ef, ec, e47]) HT.out (fun w' => Ends.noOut) ?_ ?_
     ·rintro ch w' (⟨_, _, _, _, h2, _⟩ | ⟨ch', ho, h2, hg⟩)
      ·cases h2
      ·have h2 := Ending.panicked.inj h2
       subst h2
       have hq : bodyPost Tryz.prog Tryz.f82 (fun e w' => Ends S d w tot (RB w) e w') (.panic ch) _ w' := ⟨hF.2.1, Or.inr ⟨ch, by rw [EQ11.out]; exact pan_bind ho, rfl, STd.out.pan hg⟩⟩
       exact hq
     rintro v w14 (⟨x14, n14, v14, hpo, h2, ⟨y14, hv, hyl, hyo, rfl⟩, hr, hg⟩ | ⟨_, _, h2, _⟩) hF2
     rotate_left
     ·cases h2
     have h2 := Ending.returned.inj h2
     subst h2
     have e15 := EQ11.out
     rw [show _ = Out.ok _ _ from hpo, bind_ok] at e15
     have EQ15 := Lib.hid e15
     clear e15 EQ11 hS
     have hv2 : v = .agg #[.int .i64 y14.h.k, .int .i64 y14.h.m, .int .i64 y14.h.f, .int .i64 y14.h.t, .slice y14.h.np y14.h.nn y14.h.nc, .slice y14.h.kp y14.h.kn y14.h.kc] := hv
     subst hv2
     clear hv hF
     have hF := hF2
     clear hF2
     have HY14 := Lib.hid (And.intro hyl (hyo.mono (fun q hq => Nat.le_trans STd.out.size hq) _))
     have ST16 := Lib.hid (STd.out.grow hr hg)
     clear hr hg STd hyl hyo hpo HT
     have hS : (fun W : World => W.heap[bx]? = some (.cells #[.pointer (some ⟨S.g, 0, none⟩)] 56 (0, 0)) ∧ W.heap[byy]? = some (.cells #[.int .i64 (at_ : Int)] 3 (0, 0))) w14 := ⟨(ST16.out.x (bx, Obj.cells #[.pointer (some ⟨S.g, 0, none⟩)] 56 (0, 0)) (by simp)).1, (ST16.out.x (byy, Obj.cells #[.int .i64 (at_ : Int)] 3 (0, 0)) (by simp)).1⟩
     refine ⟨fun _ => hS, ?_⟩
     refine wpTill_alone 5 (by kernel_rfl) ?_
     have hys : ∀ u ∈ [y14], u.Lies w14 ∧ u.On (fun q => (w.alloc boxZ).heap.size ≤ q) := (List.forall_mem_cons.2 ⟨HY14.out, (fun _ h => nomatch h)⟩)
     have hnew : St S _ d _ (w14.alloc (.cells #[.int .i64 y14.h.k, .int .i64 y14.h.m, .int .i64 y14.h.f, .int .i64 y14.h.t, .slice y14.h.np y14.h.nn y14.h.nc, .slice y14.h.kp y14.h.kn y14.h.kc] 26)) _ := ST16.out.newK [y14] (by simp) hys
     clear hys
     have HY18 := Lib.hid (And.intro (HY14.out.1.step _ ((Below.refl w14.heap.size w14).alloc (Nat.le_refl _) (.cells #[.int .i64 y14.h.k, .int .i64 y14.h.m, .int .i64 y14.h.f, .int .i64 y14.h.t, .slice y14.h.np y14.h.nn y14.h.nc, .slice y14.h.kp y14.h.kn y14.h.kc] 26))) HY14.out.2)
     have STn := Lib.hid hnew
     clear hnew hS
     refine make_op 5 (oi := { dst := some 54, op := Op.buildSlice 24 1 #[(0, Operand.tmp 53)], type := 24, pos := "decs.go:65", after := #[{ on := 4, ground := Ground.data }], guard := none }) (d := 54) (v := .slice (some ⟨w14.heap.size, 0, none⟩) 1 1) (w' := w14.alloc (.cells #[.int .i64 y14.h.k, .int .i64 y14.h.m, .int .i64 y14.h.f, .int .i64 y14.h.t, .slice y14.h.np y14.h.nn y14.h.nc, .slice y14.h.kp y14.h.kn y14.h.kc] 26)) hF rfl rfl (by decide) (fun a' hA => wanted_none rfl) (fun a' hA => by have e48 := hA.get 53 rfl; have ec : ∀ v, a'.eval (.const v) = v := fun _ => rfl; clear hA; generalize a'.eval = ρ at *; simp [go_sem, ec, e48]; try rfl) ?_
     clear hF
     intro hF
     clear ST16
     generalize w14.alloc (.cells #[.int .i64 y14.h.k, .int .i64 y14.h.m, .int .i64 y14.h.f, .int .i64 y14.h.t, .slice y14.h.np y14.h.nn y14.h.nc, .slice y14.h.kp y14.h.kn y14.h.kc] 26) = w17 at *
     generalize hgz17 : w14.heap.size = g17 at *
     have ST17 := STn
     clear STn
     have hS : (fun W : World => W.heap[bx]? = some (.cells #[.pointer (some ⟨S.g, 0, none⟩)] 56 (0, 0)) ∧ W.heap[byy]? = some (.cells #[.int .i64 (at_ : Int)] 3 (0, 0))) w17 := ⟨(ST17.out.x (bx, Obj.cells #[.pointer (some ⟨S.g, 0, none⟩)] 56 (0, 0)) (by simp)).1, (ST17.out.x (byy, Obj.cells #[.int .i64 (at_ : Int)] 3 (0, 0)) (by simp)).1⟩
     refine ⟨fun _ => hS, ?_⟩
     refine wpTill_alone 6 (by kernel_rfl) ?_
     have HT := Lib.hid (rbranch_any S (n14) d 6 (n : Nat) p7 1 cp7 (some ⟨g17, 0, none⟩) 1 1 _ ST17.out.rd)
     refine call_op 6 (oi := { dst := some 55, op := Op.call { callee := Callee.value (Operand.func 38), args := #[Operand.tmp 49, Operand.const (Value.int IntKind.i64 6), Operand.tmp 50, Operand.tmp 51, Operand.tmp 54], argTypes := #[56, 3, 3, 23, 24] }, type := 26, pos := "decs.go:65", after := #[{ on := 0, ground := Ground.data }, { on := 1, ground := Ground.data }, { on := 2, ground := Ground.data }, { on := 5, ground := Ground.data }, { on := 4, ground := Ground.chain }], guard := none }) (d := 55) (R := fun e w' => e = .returned (.agg #[.int .i64 6, .int .i64 0, .int .i64 (n : Int), .int .i64 (n14 : Int), .slice p7 1 cp7, .slice (some ⟨g17, 0, none⟩) 1 1]) ∧ Below w17.heap.size w17 w') hF rfl rfl (by decide) (fun a' hA => wanted_none rfl) (fun a' hA => by have e44 := hA.get 49 rfl; have e45 := hA.get 50 rfl; have e46 := hA.get 51 rfl; have e49 := hA.get 54 rfl; have ef : ∀ f, a'.eval (.func f) = .func (.func f) #[] #[] := fun _ => rfl; have ec : ∀ v, a'.eval (.const v) = v := fun _ => rfl; clear hA; generalize a'.eval = ρ at *; simp [go_sem, ef, ec, e44, e45, e46, e49]) HT.out (by rintro w' ⟨h, _⟩; cases h) ?_ ?_
     ·rintro ch w' ⟨h, _⟩
      cases h
     rintro v w19 ⟨h, hb⟩
     have h := Ending.returned.inj h
     subst h
     intro hF2
     clear hF hS
     have hF := hF2
     clear hF2
     have ST19 := Lib.hid (ST17.out.below hb)
     clear hb ST17 HT
     have hS : (fun W : World => W.heap[bx]? = some (.cells #[.pointer (some ⟨S.g, 0, none⟩)] 56 (0, 0)) ∧ W.heap[byy]? = some (.cells #[.int .i64 (at_ : Int)] 3 (0, 0))) w19 := ⟨(ST19.out.x (bx, Obj.cells #[.pointer (some ⟨S.g, 0, none⟩)] 56 (0, 0)) (by simp)).1, (ST19.out.x (byy, Obj.cells #[.int .i64 (at_ : Int)] 3 (0, 0)) (by simp)).1⟩
     refine ⟨fun _ => hS, ?_⟩
     refine wpTill_alone 7 (by kernel_rfl) ?_
     have FIN := Lib.hid (ST19.out.fin (k := 6) (m := 0) (f := n) hgl hgwl (ST19.out.ns (.slice p7 1 cp7, [x7]) (by simp)) (ST19.out.ks (.slice (some ⟨g17, 0, none⟩) 1 1, [y14]) (by simp)) EQ15.out)
     refine store_op 7 (oi := { dst := none, op := Op.store 26 (Operand.tmp 4) (Operand.tmp 55), type := 0, pos := "decs.go:65", after := #[{ on := 6, ground := Ground.data }, { on := 6, ground := Ground.chain }, { on := 0, ground := Ground.phase }, { on := 1, ground := Ground.phase }, { on := 2, ground := Ground.phase }, { on := 3, ground := Ground.phase }, { on := 4, ground := Ground.phase }, { on := 5, ground := Ground.phase }, { on := 6, ground := Ground.phase }], guard := none }) (w' := ((((((w19.setCell ⟨w.heap.size, 0, none⟩ (.int .i64 6)).setCell ⟨w.heap.size, 1, none⟩ (.int .i64 0)).setCell ⟨w.heap.size, 2, none⟩ (.int .i64 (n : Int))).setCell ⟨w.heap.size, 3, none⟩ (.int .i64 (n14 : Int))).setCell ⟨w.heap.size, 4, none⟩ (.slice p7 1 cp7)).setCell ⟨w.heap.size, 5, none⟩ (.slice (some ⟨g17, 0, none⟩) 1 1))) hF rfl rfl (fun a' hA => wanted_none rfl) (fun a' hA => ?_) ?_
     ·have e1 := hA.get 4 rfl
      have e2 := hA.get 55 rfl
      have c0 := FIN.out.c0
      have c1 := FIN.out.c1
      have c2 := FIN.out.c2
      have c3 := FIN.out.c3
      have c4 := FIN.out.c4
      have c5 := FIN.out.c5
      have f0 := FIN.out.fz 0
      have f1 := FIN.out.fz 1
      have f2 := FIN.out.fz 2
      have f3 := FIN.out.fz 3
      have f4 := FIN.out.fz 4
      have f5 := FIN.out.fz 5
      clear hA hF
      generalize a'.eval = ρ at *
      simp [go_sem, e1, e2, c0, c1, c2, c3, c4, c5, f0, f1, f2, f3, f4, f5]
     refine ⟨fun h => absurd h (by decide), ?_⟩
     refine wpTill_done (by kernel_rfl) ?_ _
     subst ha0
     simp only [Act.put, List.setIfInBounds_toArray, List.set_cons_zero, List.set_cons_succ]
     clear hF hS ST19 EQ15
     go_wp2_with fail
     obtain ⟨_, _, _, _, _, _, _, d0, d1, d2, d3, d4, d5, hfin⟩ := FIN.out
     refine bodyPost_ret (by simp [results, Tryz.results82, go_sem, d0, d1, d2, d3, d4, d5, Result.andThen]; try rfl) rfl ?_
     exact hfin
   ·have e3 := EQ2.out
    simp only [h1, cond_true] at e3
    have EQ3 := Lib.hid e3
    clear e3 EQ2
    have t0 := is_tx h0
    have t1 := is_tx h1
    go_enter Tryz.func82, Tryz.ntmps82
    go_upto_region 1 with fail
    have qx0 := ST0.out.xc (b := bx) (v := .pointer (some ⟨S.g, 0, none⟩)) (T := 56) (by simp)
    have qx1 := ST0.out.xc (b := byy) (v := .int .i64 (at_ : Int)) (T := 3) (by simp)
    go_region_held3 (fun w' => w'.cell? ⟨bx, 0, none⟩ = some (.pointer (some ⟨S.g, 0, none⟩)) ∧ w'.cell? ⟨byy, 0, none⟩ = some (.int .i64 (at_ : Int))) (first | exact ⟨qx0, qx1⟩ | exact HKP.out _ (Below.refl _ _).drew | exact HKP.out _ HBA.out | exact HKP.out _ HBA.out.drew | exact HKP.out _ HBB.out | exact HKP.out _ HBB.out.drew | go_keep) (first | (go_at_call 59; (with_reducible refine Calls.mono (HDC.out _ (by first | exact Below.refl _ _ | exact (Below.refl _ _).drew)) ?_); rintro e wa ⟨rfl, hba⟩; have HBA := Lib.hid hba; clear hba) | (go_at_call 36; (with_reducible refine Calls.mono (HEX.out _ (by first | exact HBA.out | exact HBA.out.drew)) ?_); rintro e wb ⟨rfl, hbb⟩; have HBB := Lib.hid hbb; clear hbb))
    clear qx0 qx1
    have STb := Lib.hid (ST0.out.below HBB.out)
    have STm := Lib.hid (STb.out.moved (n + 1) hn1 ((n : Int) + 1) (by omega))
    have q2 := STb.out.rd.c2
    have fz2 := STb.out.rd.free 2
    have qx0 := STb.out.xc (b := bx) (v := .pointer (some ⟨S.g, 0, none⟩)) (T := 56) (by simp)
    have qm0 := STm.out.xc (b := bx) (v := .pointer (some ⟨S.g, 0, none⟩)) (T := 56) (by simp)
    have qx1 := STb.out.xc (b := byy) (v := .int .i64 (at_ : Int)) (T := 3) (by simp)
    have qm1 := STm.out.xc (b := byy) (v := .int .i64 (at_ : Int)) (T := 3) (by simp)
    have HP := Lib.hid (rtext_any S (n + 1) d (n) _ STm.out.rd hn0)
    go_wp2_with fail
    refine HP.out.mono ?_
    rintro e w4 ⟨rfl, hb⟩
    have ST5 := Lib.hid (STm.out.below hb)
    clear hb STm HP
    clear q2 fz2 qx0 qm0 qx1 qm1
    have qx0 := ST5.out.xc (b := bx) (v := .pointer (some ⟨S.g, 0, none⟩)) (T := 56) (by simp)
    have qx1 := ST5.out.xc (b := byy) (v := .int .i64 (at_ : Int)) (T := 3) (by simp)
    go_wp2_with fail
    refine wp_region_till (fun W : World => W.heap[bx]? = some (.cells #[.pointer (some ⟨S.g, 0, none⟩)] 56 (0, 0)) ∧ W.heap[byy]? = some (.cells #[.int .i64 (at_ : Int)] 3 (0, 0))) 5 (by kernel_rfl) ?_
    have STd := Lib.hid (ST5.out.below (Below.refl w4.heap.size w4).drew)
    refine start_fp (N := 98) [(0, .int .i64 (n : Int)), (1, .pointer (some ⟨bx, 0, none⟩)), (2, .pointer (some ⟨byy, 0, none⟩)), (4, .pointer (some ⟨w.heap.size, 0, none⟩))] (Fs.of rfl rfl (by simp [Act.eval])) ?_
    intro a0 ha0 hF
    clear ST5 qx0 qx1
    generalize w4.drew = w6 at *
    have hS : (fun W : World => W.heap[bx]? = some (.cells #[.pointer (some ⟨S.g, 0, none⟩)] 56 (0, 0)) ∧ W.heap[byy]? = some (.cells #[.int .i64 (at_ : Int)] 3 (0, 0))) w6 := ⟨(STd.out.x (bx, Obj.cells #[.pointer (some ⟨S.g, 0, none⟩)] 56 (0, 0)) (by simp)).1, (STd.out.x (byy, Obj.cells #[.int .i64 (at_ : Int)] 3 (0, 0)) (by simp)).1⟩
    refine take_fp 0 [4, 5] (oi := { dst := some 38, op := Op.load 56 (Operand.tmp 1), type := 56, pos := "decs.go:61", after := #[], guard := none }) (d := 38) (v := .pointer (some ⟨S.g, 0, none⟩)) hF hS rfl rfl (by decide) (by kernel_rfl) (by kernel_rfl) (by kernel_rfl) (by kernel_rfl) (fun _ _ _ h => h) (fun a' hA => wanted_none rfl) (fun a' hA w' hw => by have e1 := hA.get 1 rfl; have ec : ∀ v, a'.eval (.const v) = v := fun _ => rfl; have q0 := Lib.cell_of_heap hw.1 0; simp only [List.getElem?_toArray, List.getElem?_cons_zero] at q0; clear hA; generalize a'.eval = ρ at *; simp [go_sem, ec, e1, q0]; try rfl) ?_
    clear hF
    intro hF
    refine take_fp 1 [4, 5] (oi := { dst := some 39, op := Op.move (Operand.tmp 0), type := 3, pos := "decs.go:61", after := #[], guard := none }) (d := 39) (v := .int .i64 (n : Int)) hF hS rfl rfl (by decide) (by kernel_rfl) (by kernel_rfl) (by kernel_rfl) (by kernel_rfl) (fun _ _ _ h => h) (fun a' hA => wanted_none rfl) (run_move_fs rfl rfl) ?_
    clear hF
    intro hF
    refine take_fp 2 [3, 4, 5] (oi := { dst := some 40, op := Op.load 56 (Operand.tmp 1), type := 56, pos := "decs.go:61", after := #[], guard := none }) (d := 40) (v := .pointer (some ⟨S.g, 0, none⟩)) hF hS rfl rfl (by decide) (by kernel_rfl) (by kernel_rfl) (by kernel_rfl) (by kernel_rfl) (fun _ _ _ h => h) (fun a' hA => wanted_none rfl) (fun a' hA w' hw => by have e1 := hA.get 1 rfl; have ec : ∀ v, a'.eval (.const v) = v := fun _ => rfl; have q0 := Lib.cell_of_heap hw.1 0; simp only [List.getElem?_toArray, List.getElem?_cons_zero] at q0; clear hA; generalize a'.eval = ρ at *; simp [go_sem, ec, e1, q0]; try rfl) ?_
    clear hF
    intro hF
    refine wpTill_alone 3 (by kernel_rfl) ?_
    have HT := Lib.hid (rrow_any 83 #[] cfn83 S F ((n + 1)) d ⟨#[97, 110, 100]⟩ (functionO S F rec d) _ STd.out.rd (by simp) hF0 (fun k w' hr hg hnd => function_any S F rec d HS.out hF0 k w' hr hnd) (bind_dry (by rw [← EQ3.out]; exact HD.out)))
    refine call_op 3 (oi := { dst := some 41, op := Op.call { callee := Callee.value (Operand.func 49), args := #[Operand.tmp 40, Operand.const (Value.string { data := #[97, 110, 100] }), Operand.func 83], argTypes := #[56, 9, 54] }, type := 24, pos := "decs.go:61", after := #[{ on := 2, ground := Ground.data }], guard := none }) (d := 41) (R := fun e w' => Ends S d w6 (rowO S F [97, 110, 100] (functionO S F rec d) ((n + 1))) (RK w6) e w') hF rfl rfl (by decide) (fun a' hA => wanted_none rfl) (fun a' hA => by have e35 := hA.get 40 rfl; have ef : ∀ f, a'.eval (.func f) = .func (.func f) #[] #[] := fun _ => rfl; have ec : ∀ v, a'.eval (.const v) = v := fun _ => rfl; clear hA; generalize a'.eval = ρ at *; simp [go_sem, ef, ec, e35]) HT.out (fun w' => Ends.noOut) ?_ ?_
    ·rintro ch w' (⟨_, _, _, _, h2, _⟩ | ⟨ch', ho, h2, hg⟩)
     ·cases h2
     ·have h2 := Ending.panicked.inj h2
      subst h2
      have hq : bodyPost Tryz.prog Tryz.f82 (fun e w' => Ends S d w tot (RB w) e w') (.panic ch) _ w' := ⟨hF.2.1, Or.inr ⟨ch, by rw [EQ3.out]; exact pan_bind ho, rfl, STd.out.pan hg⟩⟩
      exact hq
    rintro v w7 (⟨x7, n7, v7, hpo, h2, ⟨y7, hown, hkid, rfl⟩, hr, hg⟩ | ⟨_, _, h2, _⟩) hF2
    rotate_left
    ·cases h2
    have h2 := Ending.returned.inj h2
    subst h2
    have e8 := EQ3.out
    rw [show _ = Out.ok _ _ from hpo, bind_ok] at e8
    have EQ8 := Lib.hid e8
    clear e8 EQ3 hS
    have hz := STd.out.size
    have ho := own_base hown hz
    have hkk := hkid.base hz
    obtain ⟨p7, cp7, hvf⟩ := own_form hown
    subst hvf
    clear hF
    have hF := hF2
    clear hF2
    have ST9 := Lib.hid ((STd.out.grow hr hg).addK ho hkk)
    clear hr hg STd hown hkid ho hkk hz hpo HT
    have hS : (fun W : World => W.heap[bx]? = some (.cells #[.pointer (some ⟨S.g, 0, none⟩)] 56 (0, 0)) ∧ W.heap[byy]? = some (.cells #[.int .i64 (at_ : Int)] 3 (0, 0))) w7 := ⟨(ST9.out.x (bx, Obj.cells #[.pointer (some ⟨S.g, 0, none⟩)] 56 (0, 0)) (by simp)).1, (ST9.out.x (byy, Obj.cells #[.int .i64 (at_ : Int)] 3 (0, 0)) (by simp)).1⟩
    refine ⟨fun _ => hS, ?_⟩
    refine wpTill_alone 4 (by kernel_rfl) ?_
    have HT := Lib.hid (rbranch_any S (n7) d 4 (n : Nat) none 0 0 p7 y7.length cp7 _ ST9.out.rd)
    refine call_op 4 (oi := { dst := some 42, op := Op.call { callee := Callee.value (Operand.func 38), args := #[Operand.tmp 38, Operand.const (Value.int IntKind.i64 4), Operand.tmp 39, Operand.const (Value.slice none 0 0), Operand.tmp 41], argTypes := #[56, 3, 3, 23, 24] }, type := 26, pos := "decs.go:61", after := #[{ on := 0, ground := Ground.data }, { on := 1, ground := Ground.data }, { on := 3, ground := Ground.data }, { on := 3, ground := Ground.chain }], guard := none }) (d := 42) (R := fun e w' => e = .returned (.agg #[.int .i64 4, .int .i64 0, .int .i64 (n : Int), .int .i64 (n7 : Int), .slice none 0 0, .slice p7 y7.length cp7]) ∧ Below w7.heap.size w7 w') hF rfl rfl (by decide) (fun a' hA => wanted_none rfl) (fun a' hA => by have e33 := hA.get 38 rfl; have e34 := hA.get 39 rfl; have e36 := hA.get 41 rfl; have ef : ∀ f, a'.eval (.func f) = .func (.func f) #[] #[] := fun _ => rfl; have ec : ∀ v, a'.eval (.const v) = v := fun _ => rfl; clear hA; generalize a'.eval = ρ at *; simp [go_sem, ef, ec, e33, e34, e36]) HT.out (by rintro w' ⟨h, _⟩; cases h) ?_ ?_
    ·rintro ch w' ⟨h, _⟩
     cases h
    rintro v w10 ⟨h, hb⟩
    have h := Ending.returned.inj h
    subst h
    intro hF2
    clear hF hS
    have hF := hF2
    clear hF2
    have ST10 := Lib.hid (ST9.out.below hb)
    clear hb ST9 HT
    have hS : (fun W : World => W.heap[bx]? = some (.cells #[.pointer (some ⟨S.g, 0, none⟩)] 56 (0, 0)) ∧ W.heap[byy]? = some (.cells #[.int .i64 (at_ : Int)] 3 (0, 0))) w10 := ⟨(ST10.out.x (bx, Obj.cells #[.pointer (some ⟨S.g, 0, none⟩)] 56 (0, 0)) (by simp)).1, (ST10.out.x (byy, Obj.cells #[.int .i64 (at_ : Int)] 3 (0, 0)) (by simp)).1⟩
    refine ⟨fun _ => hS, ?_⟩
    refine wpTill_alone 5 (by kernel_rfl) ?_
    have FIN := Lib.hid (ST10.out.fin (k := 4) (m := 0) (f := n) hgl hgwl St.noN (ST10.out.ks (.slice p7 y7.length cp7, y7) (by simp)) EQ8.out)
    refine store_op 5 (oi := { dst := none, op := Op.store 26 (Operand.tmp 4) (Operand.tmp 42), type := 0, pos := "decs.go:61", after := #[{ on := 4, ground := Ground.data }, { on := 4, ground := Ground.chain }, { on := 0, ground := Ground.phase }, { on := 1, ground := Ground.phase }, { on := 2, ground := Ground.phase }, { on := 3, ground := Ground.phase }, { on := 4, ground := Ground.phase }], guard := none }) (w' := ((((((w10.setCell ⟨w.heap.size, 0, none⟩ (.int .i64 4)).setCell ⟨w.heap.size, 1, none⟩ (.int .i64 0)).setCell ⟨w.heap.size, 2, none⟩ (.int .i64 (n : Int))).setCell ⟨w.heap.size, 3, none⟩ (.int .i64 (n7 : Int))).setCell ⟨w.heap.size, 4, none⟩ (.slice none 0 0)).setCell ⟨w.heap.size, 5, none⟩ (.slice p7 y7.length cp7))) hF rfl rfl (fun a' hA => wanted_none rfl) (fun a' hA => ?_) ?_
    ·have e1 := hA.get 4 rfl
     have e2 := hA.get 42 rfl
     have c0 := FIN.out.c0
     have c1 := FIN.out.c1
     have c2 := FIN.out.c2
     have c3 := FIN.out.c3
     have c4 := FIN.out.c4
     have c5 := FIN.out.c5
     have f0 := FIN.out.fz 0
     have f1 := FIN.out.fz 1
     have f2 := FIN.out.fz 2
     have f3 := FIN.out.fz 3
     have f4 := FIN.out.fz 4
     have f5 := FIN.out.fz 5
     clear hA hF
     generalize a'.eval = ρ at *
     simp [go_sem, e1, e2, c0, c1, c2, c3, c4, c5, f0, f1, f2, f3, f4, f5]
    refine ⟨fun h => absurd h (by decide), ?_⟩
    refine wpTill_done (by kernel_rfl) ?_ _
    subst ha0
    simp only [Act.put, List.setIfInBounds_toArray, List.set_cons_zero, List.set_cons_succ]
    clear hF hS ST10 EQ8
    go_wp2_with fail
    obtain ⟨_, _, _, _, _, _, _, d0, d1, d2, d3, d4, d5, hfin⟩ := FIN.out
    refine bodyPost_ret (by simp [results, Tryz.results82, go_sem, d0, d1, d2, d3, d4, d5, Result.andThen]; try rfl) rfl ?_
    exact hfin
  ·have e2 := EQt.out
   simp only [h0, cond_true] at e2
   have EQ2 := Lib.hid e2
   clear e2 EQt
   have t0 := is_tx h0
   go_enter Tryz.func82, Tryz.ntmps82
   go_upto_region 1 with fail
   have qx0 := ST0.out.xc (b := bx) (v := .pointer (some ⟨S.g, 0, none⟩)) (T := 56) (by simp)
   have qx1 := ST0.out.xc (b := byy) (v := .int .i64 (at_ : Int)) (T := 3) (by simp)
   go_region_held3 (fun w' => w'.cell? ⟨bx, 0, none⟩ = some (.pointer (some ⟨S.g, 0, none⟩)) ∧ w'.cell? ⟨byy, 0, none⟩ = some (.int .i64 (at_ : Int))) (first | exact ⟨qx0, qx1⟩ | exact HKP.out _ (Below.refl _ _).drew | exact HKP.out _ HBA.out | exact HKP.out _ HBA.out.drew | exact HKP.out _ HBB.out | exact HKP.out _ HBB.out.drew | go_keep) (first | (go_at_call 59; (with_reducible refine Calls.mono (HDC.out _ (by first | exact Below.refl _ _ | exact (Below.refl _ _).drew)) ?_); rintro e wa ⟨rfl, hba⟩; have HBA := Lib.hid hba; clear hba) | (go_at_call 36; (with_reducible refine Calls.mono (HEX.out _ (by first | exact HBA.out | exact HBA.out.drew)) ?_); rintro e wb ⟨rfl, hbb⟩; have HBB := Lib.hid hbb; clear hbb))
   clear qx0 qx1
   have STb := Lib.hid (ST0.out.below HBB.out)
   have STm := Lib.hid (STb.out.moved (n + 1) hn1 ((n : Int) + 1) (by omega))
   have q2 := STb.out.rd.c2
   have fz2 := STb.out.rd.free 2
   have qx0 := STb.out.xc (b := bx) (v := .pointer (some ⟨S.g, 0, none⟩)) (T := 56) (by simp)
   have qm0 := STm.out.xc (b := bx) (v := .pointer (some ⟨S.g, 0, none⟩)) (T := 56) (by simp)
   have qx1 := STb.out.xc (b := byy) (v := .int .i64 (at_ : Int)) (T := 3) (by simp)
   have qm1 := STm.out.xc (b := byy) (v := .int .i64 (at_ : Int)) (T := 3) (by simp)
   have HP := Lib.hid (rtext_any S (n + 1) d (n) _ STm.out.rd hn0)
   go_wp2_with fail
   refine HP.out.mono ?_
   rintro e w3 ⟨rfl, hb⟩
   have ST4 := Lib.hid (STm.out.below hb)
   clear hb STm HP
   clear q2 fz2 qx0 qm0 qx1 qm1
   have qx0 := ST4.out.xc (b := bx) (v := .pointer (some ⟨S.g, 0, none⟩)) (T := 56) (by simp)
   have qx1 := ST4.out.xc (b := byy) (v := .int .i64 (at_ : Int)) (T := 3) (by simp)
   have HC := Lib.hid (HS.out.pat ((n + 1)) _ ST4.out.rd (bind_dry (by rw [← EQ2.out]; exact HD.out)))
   go_wp2_with fail
   refine HC.out.mono ?_
   rintro e w5 (⟨x5, n5, v5, hpo, rfl, ⟨y5, hv, hyl, hyo, rfl⟩, hr, hg⟩ | ⟨ch, ho, rfl, hg⟩)
   rotate_left
   ·exact ⟨rfl, Or.inr ⟨ch, by rw [EQ2.out]; exact pan_bind (ho), rfl, ST4.out.pan hg⟩⟩
   have e6 := EQ2.out
   rw [show _ = Out.ok _ _ from hpo, bind_ok] at e6
   have EQ6 := Lib.hid e6
   clear e6 EQ2
   have HY5 := Lib.hid (And.intro hyl (hyo.mono (fun q hq => Nat.le_trans ST4.out.size hq) _))
   simp only [Hd.val] at hv
   subst hv
   have ST7 := Lib.hid (ST4.out.grow hr hg)
   clear hr hg ST4 hyl hyo hpo HC
   clear qx0 qx1
   have qx0 := ST7.out.xc (b := bx) (v := .pointer (some ⟨S.g, 0, none⟩)) (T := 56) (by simp)
   have qx1 := ST7.out.xc (b := byy) (v := .int .i64 (at_ : Int)) (T := 3) (by simp)
   have hbx := ST7.out.box HY5.out.1 HY5.out.2
   have hsz := ST7.out.size
   have hlt := ST7.out.lt
   have hn1 : ¬ S.g = w5.heap.size := by omega
   have hn2 : ¬ w5.heap.size = S.g := by omega
   have hrb := heap_alloc_new w5 boxZ
   have qq := Lib.cell_of_heap hrb
   have r0 := qq 0
   have r1 := qq 1
   have r2 := qq 2
   have r3 := qq 3
   have r4 := qq 4
   have r5 := qq 5
   simp only [List.getElem?_toArray, List.getElem?_cons_zero, List.getElem?_cons_succ, boxZ] at r0 r1 r2 r3 r4 r5
   have fz : ∀ i, (w5.alloc boxZ).frozen? ⟨w5.heap.size, i, none⟩ = false := fun i => cells_frozen hrb i
   have f0 := fz 0
   have f1 := fz 1
   have f2 := fz 2
   have f3 := fz 3
   have f4 := fz 4
   have f5 := fz 5
   have hm0 : ¬ bx = w5.heap.size := by have := ST7.out.xlt (b := bx) (v := .pointer (some ⟨S.g, 0, none⟩)) (T := 56) (by simp); omega
   have hw0 : ¬ w5.heap.size = bx := fun e => hm0 e.symm
   have qa0 := (ST7.out.below ((Below.refl w5.heap.size w5).alloc (Nat.le_refl _) boxZ)).xc (b := bx) (v := .pointer (some ⟨S.g, 0, none⟩)) (T := 56) (by simp)
   have qb0 := hbx.xc (b := bx) (v := .pointer (some ⟨S.g, 0, none⟩)) (T := 56) (by simp)
   have hm1 : ¬ byy = w5.heap.size := by have := ST7.out.xlt (b := byy) (v := .int .i64 (at_ : Int)) (T := 3) (by simp); omega
   have hw1 : ¬ w5.heap.size = byy := fun e => hm1 e.symm
   have qa1 := (ST7.out.below ((Below.refl w5.heap.size w5).alloc (Nat.le_refl _) boxZ)).xc (b := byy) (v := .int .i64 (at_ : Int)) (T := 3) (by simp)
   have qb1 := hbx.xc (b := byy) (v := .int .i64 (at_ : Int)) (T := 3) (by simp)
   have STx := Lib.hid hbx
   clear hbx hrb qq fz hsz hlt ST7 qx0 qx1 HY5
   rename_i K1 hK1 K0 hK0
   show K0 _ _
   refine hK0 _ _ ?_
   refine wpList_step fun K2 hK2 => ?_
   rw [if_pos (wanted_none rfl)]
   unfold Oper.wp
   have hrun : ∀ a : Act, (execOp a.eval { dst := some 5, op := Op.alloc 26, type := 0, pos := "decs.go:57", after := #[], guard := none }).run Tryz.prog w5 = .ok (.value (.pointer (some ⟨w5.heap.size, 0, none⟩))) (w5.alloc boxZ) := fun a => by
    generalize a.eval = ρ
    simp [go_sem]
    try rfl
   rw [hrun, Oper.upon_value]
   refine hK2 _ _ ?_
   clear hrun hK2 hK0
   simp only [Act.put, List.setIfInBounds_toArray, List.set_cons_zero, List.set_cons_succ] at *
   generalize hb8 : w5.heap.size = b8 at *
   generalize w5.alloc boxZ = A8 at *
   clear hb8
   have HC := Lib.hid (rneed_any S ((n5)) d ⟨#[61]⟩ _ STx.out.rd (by simp))
   go_wp2_with fail
   refine HC.out.mono ?_
   rintro e w9 (⟨x9, n9, v9, hpo, rfl, hv, hr, hg⟩ | ⟨ch, ho, rfl, hg⟩)
   rotate_left
   ·exact ⟨rfl, Or.inr ⟨ch, by rw [EQ6.out]; exact pan_bind (ho), rfl, STx.out.pan hg⟩⟩
   have e10 := EQ6.out
   rw [show _ = Out.ok _ _ from hpo, bind_ok] at e10
   have EQ10 := Lib.hid e10
   clear e10 EQ6
   obtain rfl : v9 = .tuple #[] := hv
   have ST11 := Lib.hid (STx.out.grow hr hg)
   clear hr hg STx hpo HC
   clear r0 r1 r2 r3 r4 r5 f0 f1 f2 f3 f4 f5 hn1 hn2 hm0 hw0 qa0 qb0 hm1 hw1 qa1 qb1
   have qx0 := ST11.out.xc (b := bx) (v := .pointer (some ⟨S.g, 0, none⟩)) (T := 56) (by simp)
   have qx1 := ST11.out.xc (b := byy) (v := .int .i64 (at_ : Int)) (T := 3) (by simp)
   go_wp2_with fail
   refine wp_region_till (fun W : World => W.heap[bx]? = some (.cells #[.pointer (some ⟨S.g, 0, none⟩)] 56 (0, 0)) ∧ W.heap[byy]? = some (.cells #[.int .i64 (at_ : Int)] 3 (0, 0)) ∧ W.heap[b8]? = some (.cells #[.int .i64 y5.h.k, .int .i64 y5.h.m, .int .i64 y5.h.f, .int .i64 y5.h.t, .slice y5.h.np y5.h.nn y5.h.nc, .slice y5.h.kp y5.h.kn y5.h.kc] 26 (0, 0))) 7 (by kernel_rfl) ?_
   have STd := Lib.hid (ST11.out.below (Below.refl w9.heap.size w9).drew)
   refine start_fp (N := 98) [(0, .int .i64 (n : Int)), (1, .pointer (some ⟨bx, 0, none⟩)), (2, .pointer (some ⟨byy, 0, none⟩)), (4, .pointer (some ⟨w.heap.size, 0, none⟩)), (5, .pointer (some ⟨b8, 0, none⟩))] (Fs.of rfl rfl (by simp [Act.eval])) ?_
   intro a0 ha0 hF
   clear ST11 qx0 qx1
   generalize w9.drew = w12 at *
   have hS : (fun W : World => W.heap[bx]? = some (.cells #[.pointer (some ⟨S.g, 0, none⟩)] 56 (0, 0)) ∧ W.heap[byy]? = some (.cells #[.int .i64 (at_ : Int)] 3 (0, 0)) ∧ W.heap[b8]? = some (.cells #[.int .i64 y5.h.k, .int .i64 y5.h.m, .int .i64 y5.h.f, .int .i64 y5.h.t, .slice y5.h.np y5.h.nn y5.h.nc, .slice y5.h.kp y5.h.kn y5.h.kc] 26 (0, 0))) w12 := ⟨(STd.out.x (bx, Obj.cells #[.pointer (some ⟨S.g, 0, none⟩)] 56 (0, 0)) (by simp)).1, (STd.out.x (byy, Obj.cells #[.int .i64 (at_ : Int)] 3 (0, 0)) (by simp)).1, (STd.out.b (b8, y5) (by simp)).1⟩
   refine take_fp 0 [6, 7] (oi := { dst := some 29, op := Op.load 56 (Operand.tmp 1), type := 56, pos := "decs.go:59", after := #[], guard := none }) (d := 29) (v := .pointer (some ⟨S.g, 0, none⟩)) hF hS rfl rfl (by decide) (by kernel_rfl) (by kernel_rfl) (by kernel_rfl) (by kernel_rfl) (fun _ _ _ h => h) (fun a' hA => wanted_none rfl) (fun a' hA w' hw => by have e1 := hA.get 1 rfl; have ec : ∀ v, a'.eval (.const v) = v := fun _ => rfl; have q0 := Lib.cell_of_heap hw.1 0; simp only [List.getElem?_toArray, List.getElem?_cons_zero] at q0; clear hA; generalize a'.eval = ρ at *; simp [go_sem, ec, e1, q0]; try rfl) ?_
   clear hF
   intro hF
   refine take_fp 1 [6, 7] (oi := { dst := some 30, op := Op.move (Operand.tmp 0), type := 3, pos := "decs.go:59", after := #[], guard := none }) (d := 30) (v := .int .i64 (n : Int)) hF hS rfl rfl (by decide) (by kernel_rfl) (by kernel_rfl) (by kernel_rfl) (by kernel_rfl) (fun _ _ _ h => h) (fun a' hA => wanted_none rfl) (run_move_fs rfl rfl) ?_
   clear hF
   intro hF
   refine take_fp 2 [5, 6, 7] (oi := { dst := some 31, op := Op.load 26 (Operand.tmp 5), type := 26, pos := "decs.go:59", after := #[], guard := none }) (d := 31) (v := .agg #[.int .i64 y5.h.k, .int .i64 y5.h.m, .int .i64 y5.h.f, .int .i64 y5.h.t, .slice y5.h.np y5.h.nn y5.h.nc, .slice y5.h.kp y5.h.kn y5.h.kc]) hF hS rfl rfl (by decide) (by kernel_rfl) (by kernel_rfl) (by kernel_rfl) (by kernel_rfl) (fun _ _ _ h => h) (fun a' hA => wanted_none rfl) (fun a' hA w' hw => by have e5 := hA.get 5 rfl; have ec : ∀ v, a'.eval (.const v) = v := fun _ => rfl; have qq := Lib.cell_of_heap hw.2.2; have q0 := qq 0; have q1 := qq 1; have q2 := qq 2; have q3 := qq 3; have q4 := qq 4; have q5 := qq 5; simp only [List.getElem?_toArray, List.getElem?_cons_zero, List.getElem?_cons_succ] at q0 q1 q2 q3 q4 q5; clear qq; clear hA; generalize a'.eval = ρ at *; simp [go_sem, ec, e5, q0, q1, q2, q3, q4, q5]; try rfl) ?_
   clear hF
   intro hF
   refine take_fp 3 [4, 5, 6, 7] (oi := { dst := some 32, op := Op.load 56 (Operand.tmp 1), type := 56, pos := "decs.go:59", after := #[], guard := none }) (d := 32) (v := .pointer (some ⟨S.g, 0, none⟩)) hF hS rfl rfl (by decide) (by kernel_rfl) (by kernel_rfl) (by kernel_rfl) (by kernel_rfl) (fun _ _ _ h => h) (fun a' hA => wanted_none rfl) (fun a' hA w' hw => by have e1 := hA.get 1 rfl; have ec : ∀ v, a'.eval (.const v) = v := fun _ => rfl; have q0 := Lib.cell_of_heap hw.1 0; simp only [List.getElem?_toArray, List.getElem?_cons_zero] at q0; clear hA; generalize a'.eval = ρ at *; simp [go_sem, ec, e1, q0]; try rfl) ?_
   clear hF
   intro hF
   refine wpTill_alone 4 (by kernel_rfl) ?_
   have HT := Lib.hid (HS.out.exp ((n9)) _ STd.out.rd (bind_dry (by rw [← EQ10.out]; exact HD.out)))
   refine call_op 4 (oi := { dst := some 33, op := Op.call { callee := Callee.value (Operand.func 32), args := #[Operand.tmp 32], argTypes := #[56] }, type := 26, pos := "decs.go:59", after := #[{ on := 3, ground := Ground.data }], guard := none }) (d := 33) (R := fun e w' => Ends S d w12 (rec .exp d ((n9))) (RB w12) e w') hF rfl rfl (by decide) (fun a' hA => wanted_none rfl) (fun a' hA => by have e27 := hA.get 32 rfl; have ef : ∀ f, a'.eval (.func f) = .func (.func f) #[] #[] := fun _ => rfl; have ec : ∀ v, a'.eval (.const v) = v := fun _ => rfl; clear hA; generalize a'.eval = ρ at *; simp [go_sem, ef, ec, e27]) HT.out (fun w' => Ends.noOut) ?_ ?_
   ·rintro ch w' (⟨_, _, _, _, h2, _⟩ | ⟨ch', ho, h2, hg⟩)
    ·cases h2
    ·have h2 := Ending.panicked.inj h2
     subst h2
     have hq : bodyPost Tryz.prog Tryz.f82 (fun e w' => Ends S d w tot (RB w) e w') (.panic ch) _ w' := ⟨hF.2.1, Or.inr ⟨ch, by rw [EQ10.out]; exact pan_bind ho, rfl, STd.out.pan hg⟩⟩
     exact hq
   rintro v w13 (⟨x13, n13, v13, hpo, h2, ⟨y13, hv, hyl, hyo, rfl⟩, hr, hg⟩ | ⟨_, _, h2, _⟩) hF2
   rotate_left
   ·cases h2
   have h2 := Ending.returned.inj h2
   subst h2
   have e14 := EQ10.out
   rw [show _ = Out.ok _ _ from hpo, bind_ok] at e14
   have EQ14 := Lib.hid e14
   clear e14 EQ10 hS
   have hv2 : v = .agg #[.int .i64 y13.h.k, .int .i64 y13.h.m, .int .i64 y13.h.f, .int .i64 y13.h.t, .slice y13.h.np y13.h.nn y13.h.nc, .slice y13.h.kp y13.h.kn y13.h.kc] := hv
   subst hv2
   clear hv hF
   have hF := hF2
   clear hF2
   have HY13 := Lib.hid (And.intro hyl (hyo.mono (fun q hq => Nat.le_trans STd.out.size hq) _))
   have ST15 := Lib.hid (STd.out.grow hr hg)
   clear hr hg STd hyl hyo hpo HT
   have hS : (fun W : World => W.heap[bx]? = some (.cells #[.pointer (some ⟨S.g, 0, none⟩)] 56 (0, 0)) ∧ W.heap[byy]? = some (.cells #[.int .i64 (at_ : Int)] 3 (0, 0)) ∧ W.heap[b8]? = some (.cells #[.int .i64 y5.h.k, .int .i64 y5.h.m, .int .i64 y5.h.f, .int .i64 y5.h.t, .slice y5.h.np y5.h.nn y5.h.nc, .slice y5.h.kp y5.h.kn y5.h.kc] 26 (0, 0))) w13 := ⟨(ST15.out.x (bx, Obj.cells #[.pointer (some ⟨S.g, 0, none⟩)] 56 (0, 0)) (by simp)).1, (ST15.out.x (byy, Obj.cells #[.int .i64 (at_ : Int)] 3 (0, 0)) (by simp)).1, (ST15.out.b (b8, y5) (by simp)).1⟩
   refine ⟨fun _ => hS, ?_⟩
   refine wpTill_alone 5 (by kernel_rfl) ?_
   have hys : ∀ u ∈ [y5, y13], u.Lies w13 ∧ u.On (fun q => (w.alloc boxZ).heap.size ≤ q) := (List.forall_mem_cons.2 ⟨(ST15.out.b (b8, y5) (by simp)).2.2, (List.forall_mem_cons.2 ⟨HY13.out, (fun _ h => nomatch h)⟩)⟩)
   have hnew : St S _ d _ (w13.alloc (.cells #[.int .i64 y5.h.k, .int .i64 y5.h.m, .int .i64 y5.h.f, .int .i64 y5.h.t, .slice y5.h.np y5.h.nn y5.h.nc, .slice y5.h.kp y5.h.kn y5.h.kc, .int .i64 y13.h.k, .int .i64 y13.h.m, .int .i64 y13.h.f, .int .i64 y13.h.t, .slice y13.h.np y13.h.nn y13.h.nc, .slice y13.h.kp y13.h.kn y13.h.kc] 26)) _ := ST15.out.newK [y5, y13] (by simp) hys
   clear hys
   have HY17 := Lib.hid (And.intro (HY13.out.1.step _ ((Below.refl w13.heap.size w13).alloc (Nat.le_refl _) (.cells #[.int .i64 y5.h.k, .int .i64 y5.h.m, .int .i64 y5.h.f, .int .i64 y5.h.t, .slice y5.h.np y5.h.nn y5.h.nc, .slice y5.h.kp y5.h.kn y5.h.kc, .int .i64 y13.h.k, .int .i64 y13.h.m, .int .i64 y13.h.f, .int .i64 y13.h.t, .slice y13.h.np y13.h.nn y13.h.nc, .slice y13.h.kp y13.h.kn y13.h.kc] 26))) HY13.out.2)
   have STn := Lib.hid hnew
   clear hnew hS
   refine make_op 5 (oi := { dst := some 34, op := Op.buildSlice 24 2 #[(0, Operand.tmp 31), (1, Operand.tmp 33)], type := 24, pos := "decs.go:59", after := #[{ on := 2, ground := Ground.data }, { on := 4, ground := Ground.data }], guard := none }) (d := 34) (v := .slice (some ⟨w13.heap.size, 0, none⟩) 2 2) (w' := w13.alloc (.cells #[.int .i64 y5.h.k, .int .i64 y5.h.m, .int .i64 y5.h.f, .int .i64 y5.h.t, .slice y5.h.np y5.h.nn y5.h.nc, .slice y5.h.kp y5.h.kn y5.h.kc, .int .i64 y13.h.k, .int .i64 y13.h.m, .int .i64 y13.h.f, .int .i64 y13.h.t, .slice y13.h.np y13.h.nn y13.h.nc, .slice y13.h.kp y13.h.kn y13.h.kc] 26)) hF rfl rfl (by decide) (fun a' hA => wanted_none rfl) (fun a' hA => by have e26 := hA.get 31 rfl; have e28 := hA.get 33 rfl; have ec : ∀ v, a'.eval (.const v) = v := fun _ => rfl; clear hA; generalize a'.eval = ρ at *; simp [go_sem, ec, e26, e28]; try rfl) ?_
   clear hF
   intro hF
   clear ST15
   generalize w13.alloc (.cells #[.int .i64 y5.h.k, .int .i64 y5.h.m, .int .i64 y5.h.f, .int .i64 y5.h.t, .slice y5.h.np y5.h.nn y5.h.nc, .slice y5.h.kp y5.h.kn y5.h.kc, .int .i64 y13.h.k, .int .i64 y13.h.m, .int .i64 y13.h.f, .int .i64 y13.h.t, .slice y13.h.np y13.h.nn y13.h.nc, .slice y13.h.kp y13.h.kn y13.h.kc] 26) = w16 at *
   generalize hgz16 : w13.heap.size = g16 at *
   have ST16 := STn
   clear STn
   have hS : (fun W : World => W.heap[bx]? = some (.cells #[.pointer (some ⟨S.g, 0, none⟩)] 56 (0, 0)) ∧ W.heap[byy]? = some (.cells #[.int .i64 (at_ : Int)] 3 (0, 0)) ∧ W.heap[b8]? = some (.cells #[.int .i64 y5.h.k, .int .i64 y5.h.m, .int .i64 y5.h.f, .int .i64 y5.h.t, .slice y5.h.np y5.h.nn y5.h.nc, .slice y5.h.kp y5.h.kn y5.h.kc] 26 (0, 0))) w16 := ⟨(ST16.out.x (bx, Obj.cells #[.pointer (some ⟨S.g, 0, none⟩)] 56 (0, 0)) (by simp)).1, (ST16.out.x (byy, Obj.cells #[.int .i64 (at_ : Int)] 3 (0, 0)) (by simp)).1, (ST16.out.b (b8, y5) (by simp)).1⟩
   refine ⟨fun _ => hS, ?_⟩
   refine wpTill_alone 6 (by kernel_rfl) ?_
   have HT := Lib.hid (rbranch_any S (n13) d 3 (n : Nat) none 0 0 (some ⟨g16, 0, none⟩) 2 2 _ ST16.out.rd)
   refine call_op 6 (oi := { dst := some 35, op := Op.call { callee := Callee.value (Operand.func 38), args := #[Operand.tmp 29, Operand.const (Value.int IntKind.i64 3), Operand.tmp 30, Operand.const (Value.slice none 0 0), Operand.tmp 34], argTypes := #[56, 3, 3, 23, 24] }, type := 26, pos := "decs.go:59", after := #[{ on := 0, ground := Ground.data }, { on := 1, ground := Ground.data }, { on := 5, ground := Ground.data }, { on := 4, ground := Ground.chain }], guard := none }) (d := 35) (R := fun e w' => e = .returned (.agg #[.int .i64 3, .int .i64 0, .int .i64 (n : Int), .int .i64 (n13 : Int), .slice none 0 0, .slice (some ⟨g16, 0, none⟩) 2 2]) ∧ Below w16.heap.size w16 w') hF rfl rfl (by decide) (fun a' hA => wanted_none rfl) (fun a' hA => by have e24 := hA.get 29 rfl; have e25 := hA.get 30 rfl; have e29 := hA.get 34 rfl; have ef : ∀ f, a'.eval (.func f) = .func (.func f) #[] #[] := fun _ => rfl; have ec : ∀ v, a'.eval (.const v) = v := fun _ => rfl; clear hA; generalize a'.eval = ρ at *; simp [go_sem, ef, ec, e24, e25, e29]) HT.out (by rintro w' ⟨h, _⟩; cases h) ?_ ?_
   ·rintro ch w' ⟨h, _⟩
    cases h
   rintro v w18 ⟨h, hb⟩
   have h := Ending.returned.inj h
   subst h
   intro hF2
   clear hF hS
   have hF := hF2
   clear hF2
   have ST18 := Lib.hid (ST16.out.below hb)
   clear hb ST16 HT
   have hS : (fun W : World => W.heap[bx]? = some (.cells #[.pointer (some ⟨S.g, 0, none⟩)] 56 (0, 0)) ∧ W.heap[byy]? = some (.cells #[.int .i64 (at_ : Int)] 3 (0, 0)) ∧ W.heap[b8]? = some (.cells #[.int .i64 y5.h.k, .int .i64 y5.h.m, .int .i64 y5.h.f, .int .i64 y5.h.t, .slice y5.h.np y5.h.nn y5.h.nc, .slice y5.h.kp y5.h.kn y5.h.kc] 26 (0, 0))) w18 := ⟨(ST18.out.x (bx, Obj.cells #[.pointer (some ⟨S.g, 0, none⟩)] 56 (0, 0)) (by simp)).1, (ST18.out.x (byy, Obj.cells #[.int .i64 (at_ : Int)] 3 (0, 0)) (by simp)).1, (ST18.out.b (b8, y5) (by simp)).1⟩
   refine ⟨fun _ => hS, ?_⟩
   refine wpTill_alone 7 (by kernel_rfl) ?_
   have FIN := Lib.hid (ST18.out.fin (k := 3) (m := 0) (f := n) hgl hgwl St.noN (ST18.out.ks (.slice (some ⟨g16, 0, none⟩) 2 2, [y5, y13]) (by simp)) EQ14.out)
   refine store_op 7 (oi := { dst := none, op := Op.store 26 (Operand.tmp 4) (Operand.tmp 35), type := 0, pos := "decs.go:59", after := #[{ on := 6, ground := Ground.data }, { on := 6, ground := Ground.chain }, { on := 0, ground := Ground.phase }, { on := 1, ground := Ground.phase }, { on := 2, ground := Ground.phase }, { on := 3, ground := Ground.phase }, { on := 4, ground := Ground.phase }, { on := 5, ground := Ground.phase }, { on := 6, ground := Ground.phase }], guard := none }) (w' := ((((((w18.setCell ⟨w.heap.size, 0, none⟩ (.int .i64 3)).setCell ⟨w.heap.size, 1, none⟩ (.int .i64 0)).setCell ⟨w.heap.size, 2, none⟩ (.int .i64 (n : Int))).setCell ⟨w.heap.size, 3, none⟩ (.int .i64 (n13 : Int))).setCell ⟨w.heap.size, 4, none⟩ (.slice none 0 0)).setCell ⟨w.heap.size, 5, none⟩ (.slice (some ⟨g16, 0, none⟩) 2 2))) hF rfl rfl (fun a' hA => wanted_none rfl) (fun a' hA => ?_) ?_
   ·have e1 := hA.get 4 rfl
    have e2 := hA.get 35 rfl
    have c0 := FIN.out.c0
    have c1 := FIN.out.c1
    have c2 := FIN.out.c2
    have c3 := FIN.out.c3
    have c4 := FIN.out.c4
    have c5 := FIN.out.c5
    have f0 := FIN.out.fz 0
    have f1 := FIN.out.fz 1
    have f2 := FIN.out.fz 2
    have f3 := FIN.out.fz 3
    have f4 := FIN.out.fz 4
    have f5 := FIN.out.fz 5
    clear hA hF
    generalize a'.eval = ρ at *
    simp [go_sem, e1, e2, c0, c1, c2, c3, c4, c5, f0, f1, f2, f3, f4, f5]
   refine ⟨fun h => absurd h (by decide), ?_⟩
   refine wpTill_done (by kernel_rfl) ?_ _
   subst ha0
   simp only [Act.put, List.setIfInBounds_toArray, List.set_cons_zero, List.set_cons_succ]
   clear hF hS ST18 EQ14
   go_wp2_with fail
   obtain ⟨_, _, _, _, _, _, _, d0, d1, d2, d3, d4, d5, hfin⟩ := FIN.out
   refine bodyPost_ret (by simp [results, Tryz.results82, go_sem, d0, d1, d2, d3, d4, d5, Result.andThen]; try rfl) rfl ?_
   exact hfin
end Go.Proofs.YtkjgkchdkeggoaaGreatDoor
