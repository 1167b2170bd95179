/-
  The reader's atom.
-/
import Derived.Test.YtkjgkchdkeggoaaGreatDoorKeep
import Derived.Test.YtkjgkchdkeggoaaGreatDoorSmall
namespace Go.Proofs.YtkjgkchdkeggoaaGreatDoor
open Go.RowKit
set_option maxRecDepth 20000
set_option linter.unusedVariables false
set_option linter.unusedSimpArgs false

theorem cfn32 (args : Array Value) (w : World) : Sem.run Tryz.prog (callFunc 32 args) w = .ok (.enter 32 args) w := cf_enter Tryz.func32 (by kernel_rfl) (by kernel_rfl) args w
set_option maxHeartbeats 4000000 in
theorem atom_any (S : Src) (F : Nat) (rec : Nt → Nat → Nat → Out Pb) (d : Nat) (hs : Said S rec d) (hF0 : F ≤ 1000000000) (n : Nat) (w : World) (h : Rd w S n d)
    (hD : ∀ k w', Rd w' S k d → decsO S F rec d 0 k ≠ .dry → Calls Tryz.prog 39 #[.pointer (some ⟨S.g, 0, none⟩), .int .i64 (0 : Int)] w' fun e w'' => Ends S d w' (decsO S F rec d 0 k) (RK w') e w'') (hdry : atomO S F rec d n ≠ .dry) :
    Calls Tryz.prog 98 #[.pointer (some ⟨S.g, 0, none⟩)] w fun e w' => Ends S d w (atomO S F rec d n) (RB w) e w' := by
  have hgl := h.lt
  have hgwl := h.row
  have hbd := h.bound
  have ST0 := Lib.hid (St.init h [] ((by simp)))
  have HS := Lib.hid hs
  have HDE := Lib.hid hD
  obtain ⟨tot, htot⟩ : ∃ tot, tot = atomO S F rec d n := ⟨_, rfl⟩
  have HD : Hid (tot ≠ .dry) := Lib.hid (by rw [htot]; exact hdry)
  rw [← htot]
  unfold atomO at htot
  have EQ0 := Lib.hid htot
  clear h hdry htot hs hD
  cases h7 : S.kd n == 7
  · have e2 := EQ0.out
    simp only [h7, cond_false] at e2
    have EQ2 := Lib.hid e2
    clear e2 EQ0
    cases hlet : S.is n [108, 101, 116]
    · have e3 := EQ2.out
      simp only [hlet, cond_false] at e3
      have EQ3 := Lib.hid e3
      clear e3 EQ2
      go_enter Tryz.func98, Tryz.ntmps98
      have q2 := ST0.out.rd.c2
      have HP := Lib.hid (rkind_any S (n) d _ ST0.out.rd)
      go_wp2_with fail
      refine HP.out.mono ?_
      rintro e w4 ⟨rfl, hb⟩
      have ST5 := Lib.hid (ST0.out.below hb)
      clear hb ST0 HP
      clear q2
      have HP := Lib.hid (rpass_any S (n) d ⟨#[108, 101, 116]⟩ _ ST5.out.rd (by simp))
      simp only [hlet, cond_true, cond_false] at HP
      go_wp2_with fail
      refine HP.out.mono ?_
      rintro e w6 ⟨rfl, hr, hg⟩
      have ST7 := Lib.hid (ST5.out.grow hr hg)
      clear hr hg ST5 HP
      have HC := Lib.hid (rplain_any 32 cfn32 S F ((n)) d 28 (rec .exp d) _ ST7.out.rd hF0 (fun k w' hr hnd => HS.out.exp k w' hr hnd) (by rw [← EQ3.out]; exact HD.out))
      go_wp2_with fail
      refine HC.out.mono ?_
      rintro e w8 (⟨x8, n8, v8, hpo, rfl, ⟨y8, hv, hyl, hyo, rfl⟩, hr, hg⟩ | ⟨ch, ho, rfl, hg⟩)
      rotate_left
      · exact ⟨rfl, Or.inr ⟨ch, by rw [EQ3.out]; exact ho, rfl, ST7.out.pan hg⟩⟩
      have EQ9 := Lib.hid (EQ3.out.trans hpo)
      clear EQ3
      have HY8 := Lib.hid (And.intro hyl (hyo.mono (fun q hq => Nat.le_trans ST7.out.size hq) _))
      simp only [Hd.val] at hv
      subst hv
      have ST10 := Lib.hid (ST7.out.grow hr hg)
      clear hr hg ST7 hyl hyo hpo HC
      have FIN := Lib.hid (ST10.out.finY hgl hgwl HY8.out.1 HY8.out.2 EQ9.out)
      clear ST10 HY8 EQ9
      have c0 := FIN.out.c0
      have c1 := FIN.out.c1
      have c2 := FIN.out.c2
      have c3 := FIN.out.c3
      have c4 := FIN.out.c4
      have c5 := FIN.out.c5
      have f0 := FIN.out.fz 0
      have f1 := FIN.out.fz 1
      have f2 := FIN.out.fz 2
      have f3 := FIN.out.fz 3
      have f4 := FIN.out.fz 4
      have f5 := FIN.out.fz 5
      go_wp2_with fail
      obtain ⟨_, _, _, _, _, _, _, d0, d1, d2, d3, d4, d5, hfin⟩ := FIN.out
      refine bodyPost_ret (by simp [results, Tryz.results98, go_sem, d0, d1, d2, d3, d4, d5, Result.andThen]; try rfl) rfl ?_
      exact hfin
    · have e3 := EQ2.out
      simp only [hlet, cond_true] at e3
      have EQ3 := Lib.hid e3
      clear e3 EQ2
      go_enter Tryz.func98, Tryz.ntmps98
      have q2 := ST0.out.rd.c2
      have HP := Lib.hid (rkind_any S (n) d _ ST0.out.rd)
      go_wp2_with fail
      refine HP.out.mono ?_
      rintro e w4 ⟨rfl, hb⟩
      have ST5 := Lib.hid (ST0.out.below hb)
      clear hb ST0 HP
      clear q2
      have HP := Lib.hid (rpass_any S (n) d ⟨#[108, 101, 116]⟩ _ ST5.out.rd (by simp))
      simp only [hlet, cond_true, cond_false] at HP
      go_wp2_with fail
      refine HP.out.mono ?_
      rintro e w6 ⟨rfl, hr, hg⟩
      have ST7 := Lib.hid (ST5.out.grow hr hg)
      clear hr hg ST5 HP
      have HC := Lib.hid (within_any S F rec d 0 ((n + 1)) _ ST7.out.rd (fun w' hr hnd => HDE.out _ w' hr hnd) (bind_dry (by rw [← EQ3.out]; exact HD.out)))
      go_wp2_with fail
      refine HC.out.mono ?_
      rintro e w8 (⟨x8, n8, v8, hpo, rfl, ⟨y8, hv, hyl, hyo, rfl⟩, hr, hg⟩ | ⟨ch, ho, rfl, hg⟩)
      rotate_left
      · exact ⟨rfl, Or.inr ⟨ch, by rw [EQ3.out]; exact pan_bind (ho), rfl, ST7.out.pan hg⟩⟩
      have e9 := EQ3.out
      rw [show _ = Out.ok _ _ from hpo, bind_ok] at e9
      have EQ9 := Lib.hid e9
      clear e9 EQ3
      have HY8 := Lib.hid (And.intro hyl (hyo.mono (fun q hq => Nat.le_trans ST7.out.size hq) _))
      simp only [Hd.val] at hv
      subst hv
      have ST10 := Lib.hid (ST7.out.grow hr hg)
      clear hr hg ST7 hyl hyo hpo HC
      have hbx := ST10.out.box HY8.out.1 HY8.out.2
      have hsz := ST10.out.size
      have hlt := ST10.out.lt
      have hn1 : ¬ S.g = w8.heap.size := by omega
      have hn2 : ¬ w8.heap.size = S.g := by omega
      have hrb := heap_alloc_new w8 boxZ
      have qq := Lib.cell_of_heap hrb
      have r0 := qq 0
      have r1 := qq 1
      have r2 := qq 2
      have r3 := qq 3
      have r4 := qq 4
      have r5 := qq 5
      simp only [List.getElem?_toArray, List.getElem?_cons_zero, List.getElem?_cons_succ, boxZ] at r0 r1 r2 r3 r4 r5
      have fz : ∀ i, (w8.alloc boxZ).frozen? ⟨w8.heap.size, i, none⟩ = false := fun i => cells_frozen hrb i
      have f0 := fz 0
      have f1 := fz 1
      have f2 := fz 2
      have f3 := fz 3
      have f4 := fz 4
      have f5 := fz 5
      have STx := Lib.hid hbx
      clear hbx hrb qq fz hsz hlt ST10  HY8
      rename_i K1 hK1 K0 hK0
      show K0 _ _
      refine hK0 _ _ ?_
      refine wpList_step fun K2 hK2 => ?_
      rw [if_pos (wanted_none rfl)]
      unfold Oper.wp
      have hrun : ∀ a : Act, (execOp a.eval { dst := some 5, op := Op.alloc 26, type := 0, pos := "terms.go:85", after := #[], guard := none }).run Tryz.prog w8 = .ok (.value (.pointer (some ⟨w8.heap.size, 0, none⟩))) (w8.alloc boxZ) := fun a => by
        generalize a.eval = ρ
        simp [go_sem]
        try rfl
      rw [hrun, Oper.upon_value]
      refine hK2 _ _ ?_
      clear hrun hK2 hK0
      simp only [Act.put, List.setIfInBounds_toArray, List.set_cons_zero, List.set_cons_succ] at *
      generalize hb11 : w8.heap.size = b11 at *
      generalize w8.alloc boxZ = A11 at *
      clear hb11
      have HC := Lib.hid (rneed_any S ((n8)) d ⟨#[105, 110]⟩ _ STx.out.rd (by simp))
      go_wp2_with fail
      refine HC.out.mono ?_
      rintro e w12 (⟨x12, n12, v12, hpo, rfl, hv, hr, hg⟩ | ⟨ch, ho, rfl, hg⟩)
      rotate_left
      · exact ⟨rfl, Or.inr ⟨ch, by rw [EQ9.out]; exact pan_bind (ho), rfl, STx.out.pan hg⟩⟩
      have e13 := EQ9.out
      rw [show _ = Out.ok _ _ from hpo, bind_ok] at e13
      have EQ13 := Lib.hid e13
      clear e13 EQ9
      obtain rfl : v12 = .tuple #[] := hv
      have ST14 := Lib.hid (STx.out.grow hr hg)
      clear hr hg STx hpo HC
      clear r0 r1 r2 r3 r4 r5 f0 f1 f2 f3 f4 f5 hn1 hn2
      have HC := Lib.hid (HS.out.exp ((n12)) _ ST14.out.rd (bind_dry (by rw [← EQ13.out]; exact HD.out)))
      go_wp2_with fail
      refine HC.out.mono ?_
      rintro e w15 (⟨x15, n15, v15, hpo, rfl, ⟨y15, hv, hyl, hyo, rfl⟩, hr, hg⟩ | ⟨ch, ho, rfl, hg⟩)
      rotate_left
      · exact ⟨rfl, Or.inr ⟨ch, by rw [EQ13.out]; exact pan_bind (ho), rfl, ST14.out.pan hg⟩⟩
      have e16 := EQ13.out
      rw [show _ = Out.ok _ _ from hpo, bind_ok] at e16
      have EQ16 := Lib.hid e16
      clear e16 EQ13
      have HY15 := Lib.hid (And.intro hyl (hyo.mono (fun q hq => Nat.le_trans ST14.out.size hq) _))
      simp only [Hd.val] at hv
      subst hv
      have ST17 := Lib.hid (ST14.out.grow hr hg)
      clear hr hg ST14 hyl hyo hpo HC
      have hbx := ST17.out.box HY15.out.1 HY15.out.2
      have hsz := ST17.out.size
      have hlt := ST17.out.lt
      have hn1 : ¬ S.g = w15.heap.size := by omega
      have hn2 : ¬ w15.heap.size = S.g := by omega
      have hrb := heap_alloc_new w15 boxZ
      have qq := Lib.cell_of_heap hrb
      have r0 := qq 0
      have r1 := qq 1
      have r2 := qq 2
      have r3 := qq 3
      have r4 := qq 4
      have r5 := qq 5
      simp only [List.getElem?_toArray, List.getElem?_cons_zero, List.getElem?_cons_succ, boxZ] at r0 r1 r2 r3 r4 r5
      have fz : ∀ i, (w15.alloc boxZ).frozen? ⟨w15.heap.size, i, none⟩ = false := fun i => cells_frozen hrb i
      have f0 := fz 0
      have f1 := fz 1
      have f2 := fz 2
      have f3 := fz 3
      have f4 := fz 4
      have f5 := fz 5
      have STx := Lib.hid hbx
      clear hbx hrb qq fz hsz hlt ST17  HY15
      rename_i K1 hK1 K0 hK0
      show K0 _ _
      refine hK0 _ _ ?_
      refine wpList_step fun K2 hK2 => ?_
      rw [if_pos (wanted_none rfl)]
      unfold Oper.wp
      have hrun : ∀ a : Act, (execOp a.eval { dst := some 6, op := Op.alloc 26, type := 0, pos := "terms.go:87", after := #[], guard := none }).run Tryz.prog w15 = .ok (.value (.pointer (some ⟨w15.heap.size, 0, none⟩))) (w15.alloc boxZ) := fun a => by
        generalize a.eval = ρ
        simp [go_sem]
        try rfl
      rw [hrun, Oper.upon_value]
      refine hK2 _ _ ?_
      clear hrun hK2 hK0
      simp only [Act.put, List.setIfInBounds_toArray, List.set_cons_zero, List.set_cons_succ] at *
      generalize hb18 : w15.heap.size = b18 at *
      generalize w15.alloc boxZ = A18 at *
      clear hb18
      have HC := Lib.hid (rneed_any S ((n15)) d ⟨#[101, 110, 100]⟩ _ STx.out.rd (by simp))
      go_wp2_with fail
      refine HC.out.mono ?_
      rintro e w19 (⟨x19, n19, v19, hpo, rfl, hv, hr, hg⟩ | ⟨ch, ho, rfl, hg⟩)
      rotate_left
      · exact ⟨rfl, Or.inr ⟨ch, by rw [EQ16.out]; exact pan_bind (ho), rfl, STx.out.pan hg⟩⟩
      have e20 := EQ16.out
      rw [show _ = Out.ok _ _ from hpo, bind_ok] at e20
      have EQ20 := Lib.hid e20
      clear e20 EQ16
      obtain rfl : v19 = .tuple #[] := hv
      have ST21 := Lib.hid (STx.out.grow hr hg)
      clear hr hg STx hpo HC
      clear r0 r1 r2 r3 r4 r5 f0 f1 f2 f3 f4 f5 hn1 hn2
      have qq := Lib.cell_of_heap (ST21.out.b (b18, y15) (by simp)).1
      have l00 := qq 0
      have l01 := qq 1
      have l02 := qq 2
      have l03 := qq 3
      have l04 := qq 4
      have l05 := qq 5
      simp only [List.getElem?_toArray, List.getElem?_cons_zero, List.getElem?_cons_succ] at l00 l01 l02 l03 l04 l05
      clear qq
      have qq := Lib.cell_of_heap (ST21.out.b (b11, y8) (by simp)).1
      have l10 := qq 0
      have l11 := qq 1
      have l12 := qq 2
      have l13 := qq 3
      have l14 := qq 4
      have l15 := qq 5
      simp only [List.getElem?_toArray, List.getElem?_cons_zero, List.getElem?_cons_succ] at l10 l11 l12 l13 l14 l15
      clear qq
      have hys22 : ∀ u ∈ [y8, y15], u.Lies w19 ∧ u.On (fun q => (w.alloc boxZ).heap.size ≤ q) := (List.forall_mem_cons.2 ⟨(ST21.out.b (b11, y8) (by simp)).2.2, (List.forall_mem_cons.2 ⟨(ST21.out.b (b18, y15) (by simp)).2.2, (fun _ h => nomatch h)⟩)⟩)
      have ST22 : Hid (St S _ d _ (w19.alloc (.cells #[.int .i64 y8.h.k, .int .i64 y8.h.m, .int .i64 y8.h.f, .int .i64 y8.h.t, .slice y8.h.np y8.h.nn y8.h.nc, .slice y8.h.kp y8.h.kn y8.h.kc, .int .i64 y15.h.k, .int .i64 y15.h.m, .int .i64 y15.h.f, .int .i64 y15.h.t, .slice y15.h.np y15.h.nn y15.h.nc, .slice y15.h.kp y15.h.kn y15.h.kc] 26)) _) := Lib.hid (ST21.out.newK [y8, y15] (by simp) hys22)
      clear hys22
      have HB := Lib.hid (rbranch_any S (n19) d 35 (n : Nat) none 0 0 (some ⟨w19.heap.size, 0, none⟩) 2 2 _ ST22.out.rd)
      go_wp2_with fail
      refine HB.out.mono ?_
      rintro e w23 ⟨rfl, hb⟩
      have ST24 := Lib.hid (ST22.out.below hb)
      clear hb ST22 HB
      have FIN := Lib.hid (ST24.out.fin (k := 35) (m := 0) (f := n) hgl hgwl St.noN (ST24.out.ks (.slice (some ⟨w19.heap.size, 0, none⟩) 2 2, [y8, y15]) (by simp)) EQ20.out)
      clear ST24 EQ20
      have c0 := FIN.out.c0
      have c1 := FIN.out.c1
      have c2 := FIN.out.c2
      have c3 := FIN.out.c3
      have c4 := FIN.out.c4
      have c5 := FIN.out.c5
      have f0 := FIN.out.fz 0
      have f1 := FIN.out.fz 1
      have f2 := FIN.out.fz 2
      have f3 := FIN.out.fz 3
      have f4 := FIN.out.fz 4
      have f5 := FIN.out.fz 5
      go_wp2_with fail
      obtain ⟨_, _, _, _, _, _, _, d0, d1, d2, d3, d4, d5, hfin⟩ := FIN.out
      refine bodyPost_ret (by simp [results, Tryz.results98, go_sem, d0, d1, d2, d3, d4, d5, Result.andThen]; try rfl) rfl ?_
      exact hfin
  · have e2 := EQ0.out
    simp only [h7, cond_true] at e2
    have EQ2 := Lib.hid e2
    clear e2 EQ0
    go_enter Tryz.func98, Tryz.ntmps98
    have q2 := ST0.out.rd.c2
    have HP := Lib.hid (rkind_any S (n) d _ ST0.out.rd)
    go_wp2_with fail
    refine HP.out.mono ?_
    rintro e w3 ⟨rfl, hb⟩
    have ST4 := Lib.hid (ST0.out.below hb)
    clear hb ST0 HP
    clear q2
    have HC := Lib.hid (path2 S ((n)) d 7 6 (by decide) (by decide) _ ST4.out.rd (bind_dry (by rw [← EQ2.out]; exact HD.out)))
    go_wp2_with fail
    refine HC.out.mono ?_
    rintro e w5 (⟨x5, n5, v5, hpo, rfl, hv, hr, hg⟩ | ⟨ch, ho, rfl, hg⟩)
    rotate_left
    · exact ⟨rfl, Or.inr ⟨ch, by rw [EQ2.out]; exact pan_bind (ho), rfl, ST4.out.pan hg⟩⟩
    have hpl := path_lt hpo
    have e6 := EQ2.out
    rw [show _ = Out.ok _ _ from hpo, bind_ok] at e6
    have EQ6 := Lib.hid e6
    clear e6 EQ2
    have hz := ST4.out.size
    obtain ⟨p5, l5, cp5, rfl⟩ := hv.form
    have ho := own_base hv hz
    have ST7 := Lib.hid ((ST4.out.grow hr hg).addN ho)
    clear hr hg ST4 hv ho hz hpo HC
    obtain ⟨m, hmm⟩ : ∃ m, m = n5 - 1 := ⟨_, rfl⟩
    have e8 := EQ6.out
    rw [← hmm] at e8
    have EQ8 := Lib.hid e8
    clear e8 EQ6
    have hmh := ST7.out.rd.here
    have hml : m < S.ts.length := by omega
    have hlen := ST7.out.rd.good.len
    have c1 := ST7.out.rd.c1
    have c2 := ST7.out.rd.c2
    obtain ⟨t0, _, _⟩ := ST7.out.rd.toks m hml
    rw [← S.kd_at hml] at t0
    have hi1 : (n5 : Int) - 1 = (m : Int) := by omega
    have hwr : IntKind.i64.wrap (m : Int) = (m : Int) := IntWalk.i64_in _ (by omega)
    have hx1 : (0 : Int) ≤ (m : Int) := by omega
    have hx2 : (m : Int) < (S.ts.length : Int) := by omega
    clear hmh hlen hmm hpl
    cases hk : S.kd m == 7
    · have e9 := EQ8.out
      simp only [hk, cond_false] at e9
      have EQ9 := Lib.hid e9
      clear e9 EQ8
      go_wp2_with fail
      go_quiet (fail)
      have ST10 := Lib.hid (ST7.out.below (below_drewN (Below.refl w5.heap.size w5) nq))
      clear ST7
      have HB := Lib.hid (rbranch_any S (n5) d 28 (n : Nat) p5 l5 cp5 none 0 0 _ ST10.out.rd)
      go_wp2_with fail
      refine HB.out.mono ?_
      rintro e w11 ⟨rfl, hb⟩
      have ST12 := Lib.hid (ST10.out.below hb)
      clear hb ST10 HB
      clear c1 c2 t0 hi1 hwr hx1 hx2
      have FIN := Lib.hid (ST12.out.fin (k := 28) (m := 0) (f := n) hgl hgwl (ST12.out.ns (.slice p5 l5 cp5, x5) (by simp)) St.noK EQ9.out)
      clear ST12 EQ9
      have c0 := FIN.out.c0
      have c1 := FIN.out.c1
      have c2 := FIN.out.c2
      have c3 := FIN.out.c3
      have c4 := FIN.out.c4
      have c5 := FIN.out.c5
      have f0 := FIN.out.fz 0
      have f1 := FIN.out.fz 1
      have f2 := FIN.out.fz 2
      have f3 := FIN.out.fz 3
      have f4 := FIN.out.fz 4
      have f5 := FIN.out.fz 5
      go_wp2_with fail
      obtain ⟨_, _, _, _, _, _, _, d0, d1, d2, d3, d4, d5, hfin⟩ := FIN.out
      refine bodyPost_ret (by simp [results, Tryz.results98, go_sem, d0, d1, d2, d3, d4, d5, Result.andThen]; try rfl) rfl ?_
      exact hfin
    · have e9 := EQ8.out
      simp only [hk, cond_true] at e9
      have EQ9 := Lib.hid e9
      clear e9 EQ8
      go_wp2_with fail
      go_quiet (fail)
      have ST10 := Lib.hid (ST7.out.below (below_drewN (Below.refl w5.heap.size w5) nq))
      clear ST7
      have HB := Lib.hid (rbranch_any S (n5) d 29 (n : Nat) p5 l5 cp5 none 0 0 _ ST10.out.rd)
      go_wp2_with fail
      refine HB.out.mono ?_
      rintro e w11 ⟨rfl, hb⟩
      have ST12 := Lib.hid (ST10.out.below hb)
      clear hb ST10 HB
      clear c1 c2 t0 hi1 hwr hx1 hx2
      have FIN := Lib.hid (ST12.out.fin (k := 29) (m := 0) (f := n) hgl hgwl (ST12.out.ns (.slice p5 l5 cp5, x5) (by simp)) St.noK EQ9.out)
      clear ST12 EQ9
      have c0 := FIN.out.c0
      have c1 := FIN.out.c1
      have c2 := FIN.out.c2
      have c3 := FIN.out.c3
      have c4 := FIN.out.c4
      have c5 := FIN.out.c5
      have f0 := FIN.out.fz 0
      have f1 := FIN.out.fz 1
      have f2 := FIN.out.fz 2
      have f3 := FIN.out.fz 3
      have f4 := FIN.out.fz 4
      have f5 := FIN.out.fz 5
      go_wp2_with fail
      obtain ⟨_, _, _, _, _, _, _, d0, d1, d2, d3, d4, d5, hfin⟩ := FIN.out
      refine bodyPost_ret (by simp [results, Tryz.results98, go_sem, d0, d1, d2, d3, d4, d5, Result.andThen]; try rfl) rfl ?_
      exact hfin
end Go.Proofs.YtkjgkchdkeggoaaGreatDoor
