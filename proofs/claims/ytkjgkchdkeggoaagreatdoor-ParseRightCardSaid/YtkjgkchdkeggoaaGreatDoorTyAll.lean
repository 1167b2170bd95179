/-
  The reader's ty.
-/
import Derived.Test.YtkjgkchdkeggoaaGreatDoorApp
namespace Go.Proofs.YtkjgkchdkeggoaaGreatDoor
open Go.RowKit
set_option maxRecDepth 20000
set_option linter.unusedVariables false
set_option linter.unusedSimpArgs false

theorem cells_frozen {W : World} {g : Nat} {cs : Array Value} {E : Nat} (h : W.heap[g]? = some (.cells cs E (0, 0))) (i : Nat) : W.frozen? ⟨g, i, none⟩ = false := by simp [World.frozen?, h]
set_option maxHeartbeats 1000000 in
theorem tyC_any (S : Src) (F : Nat) (rec : Nt → Nat → Nat → Out Pb) (d : Nat) (hs : Said S rec d) (hF0 : F ≤ 1000000000) (bx n : Nat) (w : World) (h : Rd w S n d) (hbx : w.heap[bx]? = some (.cells #[.pointer (some ⟨S.g, 0, none⟩)] 56 (0, 0))) (hbg : bx ≠ S.g) (hdry : tyO S F rec d n ≠ .dry) :
    Calls Tryz.prog 44 #[.int .i64 (n : Int), .pointer (some ⟨bx, 0, none⟩)] w fun e w' => Ends S d w (tyO S F rec d n) (RB w) e w' := by
  have hgl := h.lt
  have hgwl := h.row
  have hb1 : Below w.heap.size w (w.alloc boxZ) := (Below.refl w.heap.size w).alloc (Nat.le_refl _) _
  have hr1 := h.step hb1
  have hxl : bx < w.heap.size := (Array.getElem?_eq_some_iff.1 hbx).1
  have hB1 := (hb1.block bx hxl).trans hbx
  have qb : (w.alloc boxZ).cell? ⟨bx, 0, none⟩ = some (.pointer (some ⟨S.g, 0, none⟩)) := Lib.cell_of_heap hB1 0
  have hgz : w.heap.size + 1 ≤ (w.alloc boxZ).heap.size := by simp
  unfold tyO at hdry ⊢
  have HP := Lib.hid (fun w' (hr : Rd w' S n d) => product_any S F rec d hF0 (fun k w hr hnd => applied_any S F rec d hs hF0 k w hr hnd) n w' hr (bind_dry hdry))
  have HDRY := Lib.hid hdry
  have HR1 := Lib.hid hr1
  have HB1 := Lib.hid hB1
  obtain ⟨tot, htot⟩ : ∃ tot, tot = (productO S F rec d n).bind fun b n1 => bif S.is n1 [45, 62] then (rec .ty d (n1 + 1)).bind fun c n2 => .ok (node 43 n n2 [] [b, c]) n2 else .ok b n1 := ⟨_, rfl⟩
  rw [← htot] at HDRY ⊢
  have HTOT := Lib.hid htot
  clear hr1 hb1 h hdry htot hB1 hbx
  go_enter Tryz.func44, Tryz.ntmps44
  go_wp2_with fail
  refine (HP.out _ HR1.out).mono ?_
  rintro e w2 (⟨b, n2, v, hpo, rfl, ⟨y, rfl, hyl, hyo, hyp⟩, hr2, hg2⟩ | ⟨ch, ho, rfl, hg2⟩)
  · obtain ⟨⟨yk, ym, yf, yt, ynp, ynn, ync, yns, ykp, ykn, ykc⟩, yks⟩ := y
    have hz2 : w.heap.size + 1 ≤ w2.heap.size := by have := hg2.size; simpa using this
    have hb3 : Below w2.heap.size w2 (w2.alloc (.cells #[.int .i64 0, .int .i64 0, .int .i64 0, .int .i64 0, .slice none 0 0, .slice none 0 0] 26)) := (Below.refl _ _).alloc (Nat.le_refl _) _
    have hrb3 := heap_alloc_new w2 (.cells #[.int .i64 0, .int .i64 0, .int .i64 0, .int .i64 0, .slice none 0 0, .slice none 0 0] 26)
    obtain ⟨hsix, hgs⟩ := six_set hrb3 (.int .i64 yk) (.int .i64 ym) (.int .i64 yf) (.int .i64 yt) (.slice ynp ynn ync) (.slice ykp ykn ykc)
    have hn1 : ¬ S.g = w2.heap.size := by omega
    have hn2 : ¬ w2.heap.size = S.g := by omega
    have hn3 : ¬ bx = w2.heap.size := by omega
    have hn4 : ¬ w2.heap.size = bx := by omega
    have hr3 := (hr2.step hb3).grow hgs (fun e => by have := Option.some.inj e; omega) (fun e => by have := Option.some.inj e; omega)
    have hx2 := (hg2.block bx (by simp; omega) (fun e => hbg (Option.some.inj e))).trans HB1.out
    have hx3 := (hgs.block bx (by simp; omega) (fun e => hn3 (Option.some.inj e))).trans ((hb3.block bx (by omega)).trans hx2)
    have qx3 : (((((((w2.alloc (.cells #[.int .i64 0, .int .i64 0, .int .i64 0, .int .i64 0, .slice none 0 0, .slice none 0 0] 26)).setCell ⟨w2.heap.size, 0, none⟩ (.int .i64 yk)).setCell ⟨w2.heap.size, 1, none⟩ (.int .i64 ym)).setCell ⟨w2.heap.size, 2, none⟩ (.int .i64 yf)).setCell ⟨w2.heap.size, 3, none⟩ (.int .i64 yt)).setCell ⟨w2.heap.size, 4, none⟩ (.slice ynp ynn ync)).setCell ⟨w2.heap.size, 5, none⟩ (.slice ykp ykn ykc)).cell? ⟨bx, 0, none⟩ = some (.pointer (some ⟨S.g, 0, none⟩)) := Lib.cell_of_heap hx3 0
    have hyo2 := Br.On.low _ hyo hyl
    have hyl3 : Br.Lies (((((((w2.alloc (.cells #[.int .i64 0, .int .i64 0, .int .i64 0, .int .i64 0, .slice none 0 0, .slice none 0 0] 26)).setCell ⟨w2.heap.size, 0, none⟩ (.int .i64 yk)).setCell ⟨w2.heap.size, 1, none⟩ (.int .i64 ym)).setCell ⟨w2.heap.size, 2, none⟩ (.int .i64 yf)).setCell ⟨w2.heap.size, 3, none⟩ (.int .i64 yt)).setCell ⟨w2.heap.size, 4, none⟩ (.slice ynp ynn ync)).setCell ⟨w2.heap.size, 5, none⟩ (.slice ykp ykn ykc)) (Br.mk ⟨yk, ym, yf, yt, ynp, ynn, ync, yns, ykp, ykn, ykc⟩ yks) := Br.Lies.kept (P := fun q => q ≠ w2.heap.size) _ hgs.size (fun q hq hlt => hgs.block q hlt (fun e => hq (Option.some.inj e))) (hyo2.mono (fun q hq => by have := hq.2; omega) _) (hyl.step _ hb3)
    have HYL := Lib.hid hyl3
    have HYO : Hid (Br.On (fun q => w.heap.size + 1 ≤ q) (Br.mk ⟨yk, ym, yf, yt, ynp, ynn, ync, yns, ykp, ykn, ykc⟩ yks)) := Lib.hid (hyo.mono (fun q hq => by simpa using hq) _)
    have HX := Lib.hid hx3
    have HR3 := Lib.hid hr3
    have HG3 : Hid ((w.alloc boxZ).grownBy (((((((w2.alloc (.cells #[.int .i64 0, .int .i64 0, .int .i64 0, .int .i64 0, .slice none 0 0, .slice none 0 0] 26)).setCell ⟨w2.heap.size, 0, none⟩ (.int .i64 yk)).setCell ⟨w2.heap.size, 1, none⟩ (.int .i64 ym)).setCell ⟨w2.heap.size, 2, none⟩ (.int .i64 yf)).setCell ⟨w2.heap.size, 3, none⟩ (.int .i64 yt)).setCell ⟨w2.heap.size, 4, none⟩ (.slice ynp ynn ync)).setCell ⟨w2.heap.size, 5, none⟩ (.slice ykp ykn ykc)) (some S.g)) := Lib.hid (grown_own (grown_trans hg2 (grown_below hb3 _)) hgs (fun q hq => by have := Option.some.inj hq; simp; omega))
    have HQ3 := Lib.hid hsix
    have HPS := Lib.hid (rpass_any S n2 d ⟨#[45, 62]⟩ (((((((w2.alloc (.cells #[.int .i64 0, .int .i64 0, .int .i64 0, .int .i64 0, .slice none 0 0, .slice none 0 0] 26)).setCell ⟨w2.heap.size, 0, none⟩ (.int .i64 yk)).setCell ⟨w2.heap.size, 1, none⟩ (.int .i64 ym)).setCell ⟨w2.heap.size, 2, none⟩ (.int .i64 yf)).setCell ⟨w2.heap.size, 3, none⟩ (.int .i64 yt)).setCell ⟨w2.heap.size, 4, none⟩ (.slice ynp ynn ync)).setCell ⟨w2.heap.size, 5, none⟩ (.slice ykp ykn ykc)) hr3 (by simp))
    have HEQ : Hid (tot = bif S.is n2 [45, 62] then (rec .ty d (n2 + 1)).bind fun c n3 => .ok (node 43 n n3 [] [Br.pb (Br.mk ⟨yk, ym, yf, yt, ynp, ynn, ync, yns, ykp, ykn, ykc⟩ yks), c]) n3 else .ok (Br.pb (Br.mk ⟨yk, ym, yf, yt, ynp, ynn, ync, yns, ykp, ykn, ykc⟩ yks)) n2) := Lib.hid (by rw [HTOT.out, hpo, bind_ok, hyp])
    have hszs : (((((((w2.alloc (.cells #[.int .i64 0, .int .i64 0, .int .i64 0, .int .i64 0, .slice none 0 0, .slice none 0 0] 26)).setCell ⟨w2.heap.size, 0, none⟩ (.int .i64 yk)).setCell ⟨w2.heap.size, 1, none⟩ (.int .i64 ym)).setCell ⟨w2.heap.size, 2, none⟩ (.int .i64 yf)).setCell ⟨w2.heap.size, 3, none⟩ (.int .i64 yt)).setCell ⟨w2.heap.size, 4, none⟩ (.slice ynp ynn ync)).setCell ⟨w2.heap.size, 5, none⟩ (.slice ykp ykn ykc)).heap.size = w2.heap.size + 1 := by simp
    have HSZ := Lib.hid hszs
    have qq := Lib.cell_of_heap hrb3
    have r0 := qq 0
    have r1 := qq 1
    have r2 := qq 2
    have r3 := qq 3
    have r4 := qq 4
    have r5 := qq 5
    simp only [List.getElem?_toArray, List.getElem?_cons_zero, List.getElem?_cons_succ, boxZ] at r0 r1 r2 r3 r4 r5
    clear qq
    have fz : ∀ i, (w2.alloc (.cells #[.int .i64 0, .int .i64 0, .int .i64 0, .int .i64 0, .slice none 0 0, .slice none 0 0] 26)).frozen? ⟨w2.heap.size, i, none⟩ = false := fun i => cells_frozen hrb3 i
    have f0 := fz 0
    have f1 := fz 1
    have f2 := fz 2
    have f3 := fz 3
    have f4 := fz 4
    have f5 := fz 5
    clear hpo hyl hyo hyp hr2 hg2 hb3 hrb3 hsix hgs hr3 hx2 hx3 hyo2 hyl3 fz HTOT HP HR1 HB1 hszs
    rename_i K1 hK1 K0 hK0
    show K0 _ _
    refine hK0 _ _ ?_
    refine wpList_step fun K2 hK2 => ?_
    rw [if_pos (wanted_none rfl)]
    unfold Oper.wp
    have hrun : ∀ a : Act, (execOp a.eval { dst := some 4, op := Op.alloc 26, type := 0, pos := "terms.go:156", after := #[], guard := none }).run Tryz.prog w2 = .ok (.value (.pointer (some ⟨w2.heap.size, 0, none⟩))) (w2.alloc (.cells #[.int .i64 0, .int .i64 0, .int .i64 0, .int .i64 0, .slice none 0 0, .slice none 0 0] 26)) := fun a => by
      generalize a.eval = ρ
      simp [go_sem]
      try rfl
    rw [hrun, Oper.upon_value]
    refine hK2 _ _ ?_
    clear hrun hK2 hK0
    simp only [Hd.val, Br.h, Act.put, List.setIfInBounds_toArray, List.set_cons_zero, List.set_cons_succ] at *
    generalize hb4 : w2.heap.size = b4 at *
    generalize w2.alloc (.cells #[.int .i64 0, .int .i64 0, .int .i64 0, .int .i64 0, .slice none 0 0, .slice none 0 0] 26) = wA at *
    clear hb4
    go_wp2_with fail
    refine HPS.out.mono ?_
    rintro e w4 ⟨rfl, hr4, hg4⟩
    have HB4 := Lib.hid ((hg4.block b4 (by rw [HSZ.out]; omega) (fun e => hn2 (Option.some.inj e))).trans HQ3.out)
    have HX4 := Lib.hid ((hg4.block bx (by rw [HSZ.out]; omega) (fun e => hbg (Option.some.inj e))).trans HX.out)
    have HYL4 : Hid (Br.Lies w4 (Br.mk ⟨yk, ym, yf, yt, ynp, ynn, ync, yns, ykp, ykn, ykc⟩ yks)) := Lib.hid (Br.Lies.kept (P := fun q => w.heap.size + 1 ≤ q) _ hg4.size (fun q hq hlt => hg4.block q hlt (fun e => by have := Option.some.inj e; omega)) HYO.out HYL.out)
    have HG4 := Lib.hid (grown_trans HG3.out hg4)
    have hz4 : b4 < w4.heap.size := by have := hg4.size; have h2 := HSZ.out; omega
    have hz4g : w.heap.size < w4.heap.size := by omega
    have hbx4 : bx < w4.heap.size := by omega
    clear hg4 HPS HX HR3 HG3 HQ3 HYL HSZ r0 r1 r2 r3 r4 r5 f0 f1 f2 f3 f4 f5 qx3
    have hB4 := HB4.out
    have qq := Lib.cell_of_heap hB4
    have q0 := qq 0
    have q1 := qq 1
    have q2 := qq 2
    have q3 := qq 3
    have q4 := qq 4
    have q5 := qq 5
    simp only [List.getElem?_toArray, List.getElem?_cons_zero, List.getElem?_cons_succ, boxZ] at q0 q1 q2 q3 q4 q5
    clear qq
    have qx4 := Lib.cell_of_heap HX4.out 0
    simp only [List.getElem?_toArray, List.getElem?_cons_zero] at qx4
    clear hB4
    generalize ((((((wA.setCell ⟨b4, 0, none⟩ (.int .i64 yk)).setCell ⟨b4, 1, none⟩ (.int .i64 ym)).setCell ⟨b4, 2, none⟩ (.int .i64 yf)).setCell ⟨b4, 3, none⟩ (.int .i64 yt)).setCell ⟨b4, 4, none⟩ (.slice ynp ynn ync)).setCell ⟨b4, 5, none⟩ (.slice ykp ykn ykc)) = w3 at *
    cases his : S.is n2 [45, 62]
    · have HEQ2 : Hid (tot = .ok (Br.pb (Br.mk ⟨yk, ym, yf, yt, ynp, ynn, ync, yns, ykp, ykn, ykc⟩ yks)) n2) := Lib.hid (by rw [HEQ.out, his]; rfl)
      (try rw [his] at hr4)
      simp only [cond_false, cond_true] at hr4
      have FIN := Lib.hid (fin_box (o := tot) _ yk ym yf yt ynp ynn ync yns ykp ykn ykc yks hr4 HG4.out hgl hgwl HEQ2.out HYL4.out HYO.out rfl)
      clear hr4 his
      have c0 := FIN.out.c0
      have c1 := FIN.out.c1
      have c2 := FIN.out.c2
      have c3 := FIN.out.c3
      have c4 := FIN.out.c4
      have c5 := FIN.out.c5
      have f0 := FIN.out.fz 0
      have f1 := FIN.out.fz 1
      have f2 := FIN.out.fz 2
      have f3 := FIN.out.fz 3
      have f4 := FIN.out.fz 4
      have f5 := FIN.out.fz 5
      go_wp2_with fail
      obtain ⟨_, _, _, _, _, _, _, d0, d1, d2, d3, d4, d5, hfin⟩ := FIN.out
      refine bodyPost_ret (by simp [results, Tryz.results44, go_sem, d0, d1, d2, d3, d4, d5, Result.andThen]; try rfl) rfl ?_
      exact hfin
    · have HEQ2 : Hid (tot = (rec .ty d (n2 + 1)).bind fun c n3 => .ok (node 43 n n3 [] [Br.pb (Br.mk ⟨yk, ym, yf, yt, ynp, ynn, ync, yns, ykp, ykn, ykc⟩ yks), c]) n3) := Lib.hid (by rw [HEQ.out, his]; rfl)
      (try rw [his] at hr4)
      simp only [cond_false, cond_true] at hr4
      have HR4 := Lib.hid hr4
      have hr4l := hr4.lt
      clear hr4 his
      go_wp2_with fail
      refine wp_region_till (fun W : World => W.heap[b4]? = some (.cells #[.int .i64 yk, .int .i64 ym, .int .i64 yf, .int .i64 yt, .slice ynp ynn ync, .slice ykp ykn ykc] 26 (0, 0)) ∧ W.heap[bx]? = some (.cells #[.pointer (some ⟨S.g, 0, none⟩)] 56 (0, 0))) 7 (by kernel_rfl) ?_
      have hbd := (Below.refl w4.heap.size w4).drew
      have hS : (fun W : World => W.heap[b4]? = some (.cells #[.int .i64 yk, .int .i64 ym, .int .i64 yf, .int .i64 yt, .slice ynp ynn ync, .slice ykp ykn ykc] 26 (0, 0)) ∧ W.heap[bx]? = some (.cells #[.pointer (some ⟨S.g, 0, none⟩)] 56 (0, 0))) w4.drew := ⟨HB4.out, HX4.out⟩
      have HT := Lib.hid (hs.ty (n2 + 1) w4.drew (HR4.out.step hbd) (bind_dry (by rw [← HEQ2.out]; exact HDRY.out)))
      have HYLd := Lib.hid (HYL4.out.step _ hbd)
      have HGd := Lib.hid (grown_trans HG4.out (grown_below hbd _))
      have HBd := Lib.hid hS
      have hzd : w4.drew.heap.size = w4.heap.size := rfl
      rw [← hzd] at hz4 hz4g hbx4 hr4l
      refine start_fp (N := 17) [(0, .int .i64 (n : Int)), (1, .pointer (some ⟨bx, 0, none⟩)), (3, .pointer (some ⟨w.heap.size, 0, none⟩)), (4, .pointer (some ⟨b4, 0, none⟩))] (Fs.of rfl rfl (by simp [Act.eval])) ?_
      intro a0 ha0 hF
      clear hzd hbd HR4 HG4 HYL4 HB4 HX4
      generalize w4.drew = wd at *
      refine take_fp 0 [6, 7] (oi := { dst := some 9, op := Op.load 56 (Operand.tmp 1), type := 56, pos := "terms.go:158", after := #[], guard := none }) (d := 9) (v := .pointer (some ⟨S.g, 0, none⟩)) hF hS rfl rfl (by decide) (by kernel_rfl) (by kernel_rfl) (by kernel_rfl) (by kernel_rfl) (fun _ _ _ h => h) (fun a' hA => wanted_none rfl) (fun a' hA w' hw => by have e1 := hA.get 1 rfl; have ec : ∀ v, a'.eval (.const v) = v := fun _ => rfl; have q0 := Lib.cell_of_heap hw.2 0; simp only [List.getElem?_toArray, List.getElem?_cons_zero] at q0; clear hA; generalize a'.eval = ρ at *; simp [go_sem, ec, e1, q0]; try rfl) ?_
      clear hF
      intro hF
      refine take_fp 1 [6, 7] (oi := { dst := some 10, op := Op.move (Operand.tmp 0), type := 3, pos := "terms.go:158", after := #[], guard := none }) (d := 10) (v := .int .i64 (n : Int)) hF hS rfl rfl (by decide) (by kernel_rfl) (by kernel_rfl) (by kernel_rfl) (by kernel_rfl) (fun _ _ _ h => h) (fun a' hA => wanted_none rfl) (run_move_fs rfl rfl) ?_
      clear hF
      intro hF
      refine take_fp 2 [5, 6, 7] (oi := { dst := some 11, op := Op.load 26 (Operand.tmp 4), type := 26, pos := "terms.go:158", after := #[], guard := none }) (d := 11) (v := .agg #[.int .i64 yk, .int .i64 ym, .int .i64 yf, .int .i64 yt, .slice ynp ynn ync, .slice ykp ykn ykc]) hF hS rfl rfl (by decide) (by kernel_rfl) (by kernel_rfl) (by kernel_rfl) (by kernel_rfl) (fun _ _ _ h => h) (fun a' hA => wanted_none rfl) (fun a' hA w' hw => by have e4 := hA.get 4 rfl; have ec : ∀ v, a'.eval (.const v) = v := fun _ => rfl; have qq := Lib.cell_of_heap hw.1; have q0 := qq 0; have q1 := qq 1; have q2 := qq 2; have q3 := qq 3; have q4 := qq 4; have q5 := qq 5; simp only [List.getElem?_toArray, List.getElem?_cons_zero, List.getElem?_cons_succ] at q0 q1 q2 q3 q4 q5; clear qq; clear hA; generalize a'.eval = ρ at *; simp [go_sem, ec, e4, q0, q1, q2, q3, q4, q5]; try rfl) ?_
      clear hF
      intro hF
      refine take_fp 3 [4, 5, 6, 7] (oi := { dst := some 12, op := Op.load 56 (Operand.tmp 1), type := 56, pos := "terms.go:158", after := #[], guard := none }) (d := 12) (v := .pointer (some ⟨S.g, 0, none⟩)) hF hS rfl rfl (by decide) (by kernel_rfl) (by kernel_rfl) (by kernel_rfl) (by kernel_rfl) (fun _ _ _ h => h) (fun a' hA => wanted_none rfl) (fun a' hA w' hw => by have e1 := hA.get 1 rfl; have ec : ∀ v, a'.eval (.const v) = v := fun _ => rfl; have q0 := Lib.cell_of_heap hw.2 0; simp only [List.getElem?_toArray, List.getElem?_cons_zero] at q0; clear hA; generalize a'.eval = ρ at *; simp [go_sem, ec, e1, q0]; try rfl) ?_
      clear hF
      intro hF
      refine wpTill_alone 4 (by kernel_rfl) (call_op 4 (oi := { dst := some 13, op := Op.call { callee := Callee.value (Operand.func 31), args := #[Operand.tmp 12], argTypes := #[56] }, type := 26, pos := "terms.go:158", after := #[{ on := 3, ground := Ground.data }], guard := none }) (d := 13) (R := fun e w' => Ends S d wd (rec .ty d (n2 + 1)) (RB wd) e w') hF rfl rfl (by decide) (fun a' hA => wanted_none rfl) (fun a' hA => by have e12 := hA.get 12 rfl; have ef : ∀ f, a'.eval (.func f) = .func (.func f) #[] #[] := fun _ => rfl; have ec : ∀ v, a'.eval (.const v) = v := fun _ => rfl; clear hA; generalize a'.eval = ρ at *; simp [go_sem, ef, ec, e12]) HT.out (fun w' => Ends.noOut) ?_ ?_)
      · rintro ch w' (⟨_, _, _, _, h2, _⟩ | ⟨ch', ho, h2, hg⟩)
        · cases h2
        · have h2 := Ending.panicked.inj h2
          subst h2
          have hq : bodyPost Tryz.prog Tryz.f44 (fun e w' => Ends S d w tot (RB w) e w') (.panic ch) _ w' := ⟨hF.2.1, Or.inr ⟨ch, by rw [HEQ2.out]; exact pan_bind ho, rfl, grown_trans (grown_below ((Below.refl _ _).alloc (Nat.le_refl _) _) _) (grown_trans HGd.out hg)⟩⟩
          exact hq
      rintro v w5 (⟨c, n3, v', hco, h2, ⟨z, hv, hzl, hzo, hzp⟩, hr5, hg5⟩ | ⟨_, _, h2, _⟩) hF2
      rotate_left
      · cases h2
      have h2 := Ending.returned.inj h2
      subst h2
      obtain ⟨⟨zk, zm, zf, zt, znp, znn, znc, zns, zkp, zkn, zkc⟩, zks⟩ := z
      have hv2 : v = .agg #[.int .i64 zk, .int .i64 zm, .int .i64 zf, .int .i64 zt, .slice znp znn znc, .slice zkp zkn zkc] := hv
      subst hv2
      clear hv hF
      have hF := hF2
      clear hF2
      have hb6 : Below w5.heap.size w5 (w5.alloc (.cells #[.int .i64 yk, .int .i64 ym, .int .i64 yf, .int .i64 yt, .slice ynp ynn ync, .slice ykp ykn ykc, .int .i64 zk, .int .i64 zm, .int .i64 zf, .int .i64 zt, .slice znp znn znc, .slice zkp zkn zkc] 26)) := (Below.refl _ _).alloc (Nat.le_refl _) _
      have hz5 : wd.heap.size ≤ w5.heap.size := hg5.size
      have hB5 : (fun W : World => W.heap[b4]? = some (.cells #[.int .i64 yk, .int .i64 ym, .int .i64 yf, .int .i64 yt, .slice ynp ynn ync, .slice ykp ykn ykc] 26 (0, 0)) ∧ W.heap[bx]? = some (.cells #[.pointer (some ⟨S.g, 0, none⟩)] 56 (0, 0))) w5 := ⟨(hg5.block b4 (by omega) (fun e => by have := Option.some.inj e; omega)).trans HBd.out.1, (hg5.block bx (by omega) (fun e => hbg (Option.some.inj e))).trans HBd.out.2⟩
      have hB6 : (fun W : World => W.heap[b4]? = some (.cells #[.int .i64 yk, .int .i64 ym, .int .i64 yf, .int .i64 yt, .slice ynp ynn ync, .slice ykp ykn ykc] 26 (0, 0)) ∧ W.heap[bx]? = some (.cells #[.pointer (some ⟨S.g, 0, none⟩)] 56 (0, 0))) (w5.alloc (.cells #[.int .i64 yk, .int .i64 ym, .int .i64 yf, .int .i64 yt, .slice ynp ynn ync, .slice ykp ykn ykc, .int .i64 zk, .int .i64 zm, .int .i64 zf, .int .i64 zt, .slice znp znn znc, .slice zkp zkn zkc] 26)) := ⟨(hb6.block b4 (by omega)).trans hB5.1, (hb6.block bx (by omega)).trans hB5.2⟩
      have HK6 := Lib.hid (heap_alloc_new w5 (.cells #[.int .i64 yk, .int .i64 ym, .int .i64 yf, .int .i64 yt, .slice ynp ynn ync, .slice ykp ykn ykc, .int .i64 zk, .int .i64 zm, .int .i64 zf, .int .i64 zt, .slice znp znn znc, .slice zkp zkn zkc] 26))
      have HR6 := Lib.hid (hr5.step hb6)
      have HYL6 : Hid (Br.Lies (w5.alloc (.cells #[.int .i64 yk, .int .i64 ym, .int .i64 yf, .int .i64 yt, .slice ynp ynn ync, .slice ykp ykn ykc, .int .i64 zk, .int .i64 zm, .int .i64 zf, .int .i64 zt, .slice znp znn znc, .slice zkp zkn zkc] 26)) (Br.mk ⟨yk, ym, yf, yt, ynp, ynn, ync, yns, ykp, ykn, ykc⟩ yks)) := Lib.hid ((Br.Lies.kept (P := fun q => w.heap.size + 1 ≤ q) _ hg5.size (fun q hq hlt => hg5.block q hlt (fun e => by have := Option.some.inj e; omega)) HYO.out HYLd.out).step _ hb6)
      have HZL6 : Hid (Br.Lies (w5.alloc (.cells #[.int .i64 yk, .int .i64 ym, .int .i64 yf, .int .i64 yt, .slice ynp ynn ync, .slice ykp ykn ykc, .int .i64 zk, .int .i64 zm, .int .i64 zf, .int .i64 zt, .slice znp znn znc, .slice zkp zkn zkc] 26)) (Br.mk ⟨zk, zm, zf, zt, znp, znn, znc, zns, zkp, zkn, zkc⟩ zks)) := Lib.hid (hzl.step _ hb6)
      have HZO : Hid (Br.On (fun q => w.heap.size + 1 ≤ q ∧ some q ≠ some w5.heap.size) (Br.mk ⟨zk, zm, zf, zt, znp, znn, znc, zns, zkp, zkn, zkc⟩ zks)) := Lib.hid ((Br.On.low _ hzo hzl).mono (fun q hq => ⟨by have := hq.1; omega, fun e => by have := Option.some.inj e; have := hq.2; omega⟩) _)
      have HYO6 : Hid (Br.On (fun q => w.heap.size + 1 ≤ q ∧ some q ≠ some w5.heap.size) (Br.mk ⟨yk, ym, yf, yt, ynp, ynn, ync, yns, ykp, ykn, ykc⟩ yks)) := Lib.hid ((Br.On.low _ HYO.out HYLd.out).mono (fun q hq => ⟨hq.1, fun e => by have := Option.some.inj e; have := hq.2; omega⟩) _)
      have HG6 := Lib.hid (grown_trans (grown_trans HGd.out hg5) (grown_below hb6 _))
      have HEQ3 : Hid (tot = .ok (node 43 n n3 [] [Br.pb (Br.mk ⟨yk, ym, yf, yt, ynp, ynn, ync, yns, ykp, ykn, ykc⟩ yks), Br.pb (Br.mk ⟨zk, zm, zf, zt, znp, znn, znc, zns, zkp, zkn, zkc⟩ zks)]) n3) := Lib.hid (by rw [HEQ2.out, hco, bind_ok, hzp])
      have hk5 : w.heap.size + 1 ≤ w5.heap.size := by omega
      have HBR := Lib.hid (rbranch_any S n3 d 43 n none 0 0 (some ⟨w5.heap.size, 0, none⟩) 2 2 _ HR6.out)
      refine ⟨fun _ => hB5, ?_⟩
      refine wpTill_alone 5 (by kernel_rfl) (make_op 5 (oi := { dst := some 14, op := Op.buildSlice 24 2 #[(0, Operand.tmp 11), (1, Operand.tmp 13)], type := 24, pos := "terms.go:158", after := #[{ on := 2, ground := Ground.data }, { on := 4, ground := Ground.data }], guard := none }) (d := 14) (v := .slice (some ⟨w5.heap.size, 0, none⟩) 2 2) (w' := w5.alloc (.cells #[.int .i64 yk, .int .i64 ym, .int .i64 yf, .int .i64 yt, .slice ynp ynn ync, .slice ykp ykn ykc, .int .i64 zk, .int .i64 zm, .int .i64 zf, .int .i64 zt, .slice znp znn znc, .slice zkp zkn zkc] 26)) hF rfl rfl (by decide) (fun a' hA => wanted_none rfl) (fun a' hA => by have e11 := hA.get 11 rfl; have e13 := hA.get 13 rfl; have ec : ∀ v, a'.eval (.const v) = v := fun _ => rfl; clear hA; generalize a'.eval = ρ at *; simp [go_sem, ec, e11, e13]; try rfl) ?_)
      clear hF
      intro hF
      refine ⟨fun _ => hB6, ?_⟩
      refine wpTill_alone 6 (by kernel_rfl) (call_op 6 (oi := { dst := some 15, op := Op.call { callee := Callee.value (Operand.func 38), args := #[Operand.tmp 9, Operand.const (Value.int IntKind.i64 43), Operand.tmp 10, Operand.const (Value.slice none 0 0), Operand.tmp 14], argTypes := #[56, 3, 3, 23, 24] }, type := 26, pos := "terms.go:158", after := #[{ on := 0, ground := Ground.data }, { on := 1, ground := Ground.data }, { on := 5, ground := Ground.data }, { on := 4, ground := Ground.chain }], guard := none }) (d := 15) (R := fun e w' => e = .returned (.agg #[.int .i64 43, .int .i64 0, .int .i64 (n : Int), .int .i64 (n3 : Int), .slice none 0 0, .slice (some ⟨w5.heap.size, 0, none⟩) 2 2]) ∧ Below (w5.alloc (.cells #[.int .i64 yk, .int .i64 ym, .int .i64 yf, .int .i64 yt, .slice ynp ynn ync, .slice ykp ykn ykc, .int .i64 zk, .int .i64 zm, .int .i64 zf, .int .i64 zt, .slice znp znn znc, .slice zkp zkn zkc] 26)).heap.size (w5.alloc (.cells #[.int .i64 yk, .int .i64 ym, .int .i64 yf, .int .i64 yt, .slice ynp ynn ync, .slice ykp ykn ykc, .int .i64 zk, .int .i64 zm, .int .i64 zf, .int .i64 zt, .slice znp znn znc, .slice zkp zkn zkc] 26)) w') hF rfl rfl (by decide) (fun a' hA => wanted_none rfl) (fun a' hA => by have e9 := hA.get 9 rfl; have e10 := hA.get 10 rfl; have e14 := hA.get 14 rfl; have ef : ∀ f, a'.eval (.func f) = .func (.func f) #[] #[] := fun _ => rfl; have ec : ∀ v, a'.eval (.const v) = v := fun _ => rfl; clear hA; generalize a'.eval = ρ at *; simp [go_sem, ef, ec, e9, e10, e14]) HBR.out (by rintro w' ⟨h, _⟩; cases h) ?_ ?_)
      · rintro ch w' ⟨h, _⟩
        cases h
      rintro v w7 ⟨h, hb7⟩
      have h := Ending.returned.inj h
      subst h
      have hz6 : (w5.alloc (.cells #[.int .i64 yk, .int .i64 ym, .int .i64 yf, .int .i64 yt, .slice ynp ynn ync, .slice ykp ykn ykc, .int .i64 zk, .int .i64 zm, .int .i64 zf, .int .i64 zt, .slice znp znn znc, .slice zkp zkn zkc] 26)).heap.size = w5.heap.size + 1 := by simp
      refine fun hF2 => ⟨fun _ => ⟨(hb7.block b4 (by omega)).trans hB6.1, (hb7.block bx (by omega)).trans hB6.2⟩, ?_⟩
      clear hF
      have hF := hF2
      clear hF2
      have hown := own_lit (n := 2) (size := 6) (w := w7) (base := w.heap.size + 1) ((hb7.block _ (Array.getElem?_eq_some_iff.1 HK6.out).1).trans HK6.out) hk5 rfl (by unfold maxLen; omega)
      have hK : Kids (w.heap.size + 1) (.slice (some ⟨w5.heap.size, 0, none⟩) 2 2) w7 [(Br.mk ⟨yk, ym, yf, yt, ynp, ynn, ync, yns, ykp, ykn, ykc⟩ yks), (Br.mk ⟨zk, zm, zf, zt, znp, znn, znc, zns, zkp, zkn, zkc⟩ zks)] := fun u hu => by
        rcases List.mem_cons.1 hu with rfl | hu
        · exact ⟨HYL6.out.step _ hb7, HYO6.out.mono (fun q hq => ⟨hq.1, fun e => hq.2 e⟩) _⟩
        · obtain rfl := List.mem_singleton.1 hu
          exact ⟨HZL6.out.step _ hb7, HZO.out.mono (fun q hq => ⟨hq.1, fun e => hq.2 e⟩) _⟩
      have HL := node_lies (w0 := w) (w1 := w) (N := w.heap.size + 1) 43 0 n n3 (names_none (w := w7)) hown hK
      have FIN := Lib.hid (fin_box (o := tot) (node 43 n n3 [] [Br.pb (Br.mk ⟨yk, ym, yf, yt, ynp, ynn, ync, yns, ykp, ykn, ykc⟩ yks), Br.pb (Br.mk ⟨zk, zm, zf, zt, znp, znn, znc, zns, zkp, zkn, zkc⟩ zks)]) 43 0 n n3 none 0 0 _ (some ⟨w5.heap.size, 0, none⟩) 2 2 [(Br.mk ⟨yk, ym, yf, yt, ynp, ynn, ync, yns, ykp, ykn, ykc⟩ yks), (Br.mk ⟨zk, zm, zf, zt, znp, znn, znc, zns, zkp, zkn, zkc⟩ zks)] (HR6.out.step hb7) (grown_trans HG6.out (grown_below hb7 _)) hgl hgwl HEQ3.out HL.1 HL.2 (by simp [Br.pb, pbs, node]))
      refine wpTill_alone 7 (by kernel_rfl) (store_op 7 (oi := { dst := none, op := Op.store 26 (Operand.tmp 3) (Operand.tmp 15), type := 0, pos := "terms.go:158", after := #[{ on := 6, ground := Ground.data }, { on := 6, ground := Ground.chain }, { on := 0, ground := Ground.phase }, { on := 1, ground := Ground.phase }, { on := 2, ground := Ground.phase }, { on := 3, ground := Ground.phase }, { on := 4, ground := Ground.phase }, { on := 5, ground := Ground.phase }, { on := 6, ground := Ground.phase }], guard := none }) (w' := ((((((w7.setCell ⟨w.heap.size, 0, none⟩ (.int .i64 43)).setCell ⟨w.heap.size, 1, none⟩ (.int .i64 0)).setCell ⟨w.heap.size, 2, none⟩ (.int .i64 (n : Int))).setCell ⟨w.heap.size, 3, none⟩ (.int .i64 (n3 : Int))).setCell ⟨w.heap.size, 4, none⟩ (.slice none 0 0)).setCell ⟨w.heap.size, 5, none⟩ (.slice (some ⟨w5.heap.size, 0, none⟩) 2 2))) hF rfl rfl (fun a' hA => wanted_none rfl) (fun a' hA => ?_) ?_)
      · have e3 := hA.get 3 rfl
        have e15 := hA.get 15 rfl
        have c0 := FIN.out.c0
        have c1 := FIN.out.c1
        have c2 := FIN.out.c2
        have c3 := FIN.out.c3
        have c4 := FIN.out.c4
        have c5 := FIN.out.c5
        have f0 := FIN.out.fz 0
        have f1 := FIN.out.fz 1
        have f2 := FIN.out.fz 2
        have f3 := FIN.out.fz 3
        have f4 := FIN.out.fz 4
        have f5 := FIN.out.fz 5
        clear hA hF
        generalize a'.eval = ρ at *
        simp [go_sem, e3, e15, c0, c1, c2, c3, c4, c5, f0, f1, f2, f3, f4, f5]
      refine ⟨fun h => absurd h (by decide), ?_⟩
      refine wpTill_done (by kernel_rfl) ?_ _
      subst ha0
      simp only [Act.put, List.setIfInBounds_toArray, List.set_cons_zero, List.set_cons_succ]
      clear HL hown hK hb7 hB6 hB5 hb6 hr5 hg5 hco hzl hzo hzp hF hS
      go_wp2_with fail
      obtain ⟨_, _, _, _, _, _, _, d0, d1, d2, d3, d4, d5, hfin⟩ := FIN.out
      refine bodyPost_ret (by simp [results, Tryz.results44, go_sem, d0, d1, d2, d3, d4, d5, Result.andThen]; try rfl) rfl ?_
      exact hfin
  · exact ⟨rfl, Or.inr ⟨ch, by rw [HTOT.out]; exact pan_bind ho, rfl, grown_trans (grown_below ((Below.refl _ _).alloc (Nat.le_refl _) _) _) hg2⟩⟩
end Go.Proofs.YtkjgkchdkeggoaaGreatDoor
