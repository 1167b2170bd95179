/-
  The reader's clause.
-/
import Derived.Test.YtkjgkchdkeggoaaGreatDoorTyAll
namespace Go.Proofs.YtkjgkchdkeggoaaGreatDoor
open Go.RowKit
set_option maxRecDepth 20000
set_option linter.unusedVariables false
set_option linter.unusedSimpArgs false

set_option maxHeartbeats 2000000 in
theorem clause_any (S : Src) (rec : Nt → Nat → Nat → Out Pb) (d : Nat) (hs : Said S rec d) (kd : Int) (fr n : Nat) (w : World) (h : Rd w S n d) (hdry : clauseO S rec d kd fr n ≠ .dry) :
    Calls Tryz.prog 51 #[.pointer (some ⟨S.g, 0, none⟩), .int .i64 kd, .int .i64 (fr : Int)] w fun e w' => Ends S d w (clauseO S rec d kd fr n) (RB w) e w' := by
  have hgl := h.lt
  have hgwl := h.row
  have hb1 : Below w.heap.size w (w.alloc boxZ) := (Below.refl w.heap.size w).alloc (Nat.le_refl _) _
  have hr1 := h.step hb1
  have hgz : w.heap.size + 1 ≤ (w.alloc boxZ).heap.size := by simp
  unfold clauseO at hdry ⊢
  have HP := Lib.hid (hs.pat n _ hr1 (bind_dry hdry))
  have HDRY := Lib.hid hdry
  obtain ⟨tot, htot⟩ : ∃ tot, tot = (rec .pat d n).bind fun p n1 => (S.need [61, 62] n1).bind fun _ n2 => (rec .exp d n2).bind fun e n3 => .ok (node kd fr n3 [] [p, e]) n3 := ⟨_, rfl⟩
  rw [← htot] at HDRY ⊢
  have HTOT := Lib.hid htot
  clear hr1 hb1 h hdry htot
  go_enter Tryz.func51, Tryz.ntmps51
  go_wp2_with fail
  refine HP.out.mono ?_
  rintro e w2 (⟨b, n2, v, hpo, rfl, ⟨y, rfl, hyl, hyo, hyp⟩, hr2, hg2⟩ | ⟨ch, ho, rfl, hg2⟩)
  · obtain ⟨⟨yk, ym, yf, yt, ynp, ynn, ync, yns, ykp, ykn, ykc⟩, yks⟩ := y
    have hz2 : w.heap.size + 1 ≤ w2.heap.size := by have := hg2.size; simpa using this
    have hb3 : Below w2.heap.size w2 (w2.alloc (.cells #[.int .i64 0, .int .i64 0, .int .i64 0, .int .i64 0, .slice none 0 0, .slice none 0 0] 26)) := (Below.refl _ _).alloc (Nat.le_refl _) _
    have hrb3 := heap_alloc_new w2 (.cells #[.int .i64 0, .int .i64 0, .int .i64 0, .int .i64 0, .slice none 0 0, .slice none 0 0] 26)
    obtain ⟨hsix, hgs⟩ := six_set hrb3 (.int .i64 yk) (.int .i64 ym) (.int .i64 yf) (.int .i64 yt) (.slice ynp ynn ync) (.slice ykp ykn ykc)
    have hn1 : ¬ S.g = w2.heap.size := by omega
    have hn2 : ¬ w2.heap.size = S.g := by omega
    have hr3 := (hr2.step hb3).grow hgs (fun e => by have := Option.some.inj e; omega) (fun e => by have := Option.some.inj e; omega)
    have hyo2 := Br.On.low _ hyo hyl
    have hyl3 : Br.Lies (((((((w2.alloc (.cells #[.int .i64 0, .int .i64 0, .int .i64 0, .int .i64 0, .slice none 0 0, .slice none 0 0] 26)).setCell ⟨w2.heap.size, 0, none⟩ (.int .i64 yk)).setCell ⟨w2.heap.size, 1, none⟩ (.int .i64 ym)).setCell ⟨w2.heap.size, 2, none⟩ (.int .i64 yf)).setCell ⟨w2.heap.size, 3, none⟩ (.int .i64 yt)).setCell ⟨w2.heap.size, 4, none⟩ (.slice ynp ynn ync)).setCell ⟨w2.heap.size, 5, none⟩ (.slice ykp ykn ykc)) (Br.mk ⟨yk, ym, yf, yt, ynp, ynn, ync, yns, ykp, ykn, ykc⟩ yks) := Br.Lies.kept (P := fun q => q ≠ w2.heap.size) _ hgs.size (fun q hq hlt => hgs.block q hlt (fun e => hq (Option.some.inj e))) (hyo2.mono (fun q hq => by have := hq.2; omega) _) (hyl.step _ hb3)
    have HYL := Lib.hid hyl3
    have HYO : Hid (Br.On (fun q => w.heap.size + 1 ≤ q) (Br.mk ⟨yk, ym, yf, yt, ynp, ynn, ync, yns, ykp, ykn, ykc⟩ yks)) := Lib.hid (hyo.mono (fun q hq => by simpa using hq) _)
    have HG3 : Hid ((w.alloc boxZ).grownBy (((((((w2.alloc (.cells #[.int .i64 0, .int .i64 0, .int .i64 0, .int .i64 0, .slice none 0 0, .slice none 0 0] 26)).setCell ⟨w2.heap.size, 0, none⟩ (.int .i64 yk)).setCell ⟨w2.heap.size, 1, none⟩ (.int .i64 ym)).setCell ⟨w2.heap.size, 2, none⟩ (.int .i64 yf)).setCell ⟨w2.heap.size, 3, none⟩ (.int .i64 yt)).setCell ⟨w2.heap.size, 4, none⟩ (.slice ynp ynn ync)).setCell ⟨w2.heap.size, 5, none⟩ (.slice ykp ykn ykc)) (some S.g)) := Lib.hid (grown_own (grown_trans hg2 (grown_below hb3 _)) hgs (fun q hq => by have := Option.some.inj hq; simp; omega))
    have HQ3 := Lib.hid hsix
    have HPS := Lib.hid (rneed_any S n2 d ⟨#[61, 62]⟩ (((((((w2.alloc (.cells #[.int .i64 0, .int .i64 0, .int .i64 0, .int .i64 0, .slice none 0 0, .slice none 0 0] 26)).setCell ⟨w2.heap.size, 0, none⟩ (.int .i64 yk)).setCell ⟨w2.heap.size, 1, none⟩ (.int .i64 ym)).setCell ⟨w2.heap.size, 2, none⟩ (.int .i64 yf)).setCell ⟨w2.heap.size, 3, none⟩ (.int .i64 yt)).setCell ⟨w2.heap.size, 4, none⟩ (.slice ynp ynn ync)).setCell ⟨w2.heap.size, 5, none⟩ (.slice ykp ykn ykc)) hr3 (by simp))
    have HEQ : Hid (tot = (S.need [61, 62] n2).bind fun _ n3 => (rec .exp d n3).bind fun e n4 => .ok (node kd fr n4 [] [Br.pb (Br.mk ⟨yk, ym, yf, yt, ynp, ynn, ync, yns, ykp, ykn, ykc⟩ yks), e]) n4) := Lib.hid (by rw [HTOT.out, hpo, bind_ok, hyp])
    have hszs : (((((((w2.alloc (.cells #[.int .i64 0, .int .i64 0, .int .i64 0, .int .i64 0, .slice none 0 0, .slice none 0 0] 26)).setCell ⟨w2.heap.size, 0, none⟩ (.int .i64 yk)).setCell ⟨w2.heap.size, 1, none⟩ (.int .i64 ym)).setCell ⟨w2.heap.size, 2, none⟩ (.int .i64 yf)).setCell ⟨w2.heap.size, 3, none⟩ (.int .i64 yt)).setCell ⟨w2.heap.size, 4, none⟩ (.slice ynp ynn ync)).setCell ⟨w2.heap.size, 5, none⟩ (.slice ykp ykn ykc)).heap.size = w2.heap.size + 1 := by simp
    have HSZ := Lib.hid hszs
    have qq := Lib.cell_of_heap hrb3
    have r0 := qq 0
    have r1 := qq 1
    have r2 := qq 2
    have r3 := qq 3
    have r4 := qq 4
    have r5 := qq 5
    simp only [List.getElem?_toArray, List.getElem?_cons_zero, List.getElem?_cons_succ, boxZ] at r0 r1 r2 r3 r4 r5
    clear qq
    have fz : ∀ i, (w2.alloc (.cells #[.int .i64 0, .int .i64 0, .int .i64 0, .int .i64 0, .slice none 0 0, .slice none 0 0] 26)).frozen? ⟨w2.heap.size, i, none⟩ = false := fun i => cells_frozen hrb3 i
    have f0 := fz 0
    have f1 := fz 1
    have f2 := fz 2
    have f3 := fz 3
    have f4 := fz 4
    have f5 := fz 5
    clear hpo hyl hyo hyp hr2 hg2 hb3 hrb3 hsix hgs hr3 hyo2 hyl3 fz HTOT HP hszs
    rename_i K1 hK1 K0 hK0
    show K0 _ _
    refine hK0 _ _ ?_
    refine wpList_step fun K2 hK2 => ?_
    rw [if_pos (wanted_none rfl)]
    unfold Oper.wp
    have hrun : ∀ a : Act, (execOp a.eval { dst := some 7, op := Op.alloc 26, type := 0, pos := "terms.go:41", after := #[], guard := none }).run Tryz.prog w2 = .ok (.value (.pointer (some ⟨w2.heap.size, 0, none⟩))) (w2.alloc (.cells #[.int .i64 0, .int .i64 0, .int .i64 0, .int .i64 0, .slice none 0 0, .slice none 0 0] 26)) := fun a => by
      generalize a.eval = ρ
      simp [go_sem]
      try rfl
    rw [hrun, Oper.upon_value]
    refine hK2 _ _ ?_
    clear hrun hK2 hK0
    simp only [Hd.val, Br.h, Act.put, List.setIfInBounds_toArray, List.set_cons_zero, List.set_cons_succ] at *
    generalize hb4 : w2.heap.size = b4 at *
    generalize w2.alloc (.cells #[.int .i64 0, .int .i64 0, .int .i64 0, .int .i64 0, .slice none 0 0, .slice none 0 0] 26) = wA at *
    clear hb4
    go_wp2_with fail
    refine HPS.out.mono ?_
    rintro e w4 (⟨u, n3, v, hno, rfl, hv, hr4, hg4⟩ | ⟨ch, ho, rfl, hg4⟩)
    · obtain rfl : v = .tuple #[] := hv
      have HB4 := Lib.hid ((hg4.block b4 (by rw [HSZ.out]; omega) (fun e => hn2 (Option.some.inj e))).trans HQ3.out)
      have HYL4 : Hid (Br.Lies w4 (Br.mk ⟨yk, ym, yf, yt, ynp, ynn, ync, yns, ykp, ykn, ykc⟩ yks)) := Lib.hid (Br.Lies.kept (P := fun q => w.heap.size + 1 ≤ q) _ hg4.size (fun q hq hlt => hg4.block q hlt (fun e => by have := Option.some.inj e; omega)) HYO.out HYL.out)
      have HG4 := Lib.hid (grown_trans HG3.out hg4)
      have HR4 := Lib.hid hr4
      have hz4 : b4 < w4.heap.size := by have := hg4.size; have h2 := HSZ.out; omega
      have hz4g : w.heap.size < w4.heap.size := by omega
      have HEQ2 : Hid (tot = (rec .exp d n3).bind fun e n4 => .ok (node kd fr n4 [] [Br.pb (Br.mk ⟨yk, ym, yf, yt, ynp, ynn, ync, yns, ykp, ykn, ykc⟩ yks), e]) n4) := Lib.hid (by rw [HEQ.out]; rw [show S.need [61, 62] n2 = .ok u n3 from hno, bind_ok])
      clear hg4 HPS HG3 HQ3 HYL HSZ r0 r1 r2 r3 r4 r5 f0 f1 f2 f3 f4 f5 hno hr4 HEQ
      generalize ((((((wA.setCell ⟨b4, 0, none⟩ (.int .i64 yk)).setCell ⟨b4, 1, none⟩ (.int .i64 ym)).setCell ⟨b4, 2, none⟩ (.int .i64 yf)).setCell ⟨b4, 3, none⟩ (.int .i64 yt)).setCell ⟨b4, 4, none⟩ (.slice ynp ynn ync)).setCell ⟨b4, 5, none⟩ (.slice ykp ykn ykc)) = w3 at *
      go_wp2_with fail
      refine wp_region_till (fun W : World => W.heap[b4]? = some (.cells #[.int .i64 yk, .int .i64 ym, .int .i64 yf, .int .i64 yt, .slice ynp ynn ync, .slice ykp ykn ykc] 26 (0, 0))) 8 (by kernel_rfl) ?_
      have hbd := (Below.refl w4.heap.size w4).drew
      have hS : (fun W : World => W.heap[b4]? = some (.cells #[.int .i64 yk, .int .i64 ym, .int .i64 yf, .int .i64 yt, .slice ynp ynn ync, .slice ykp ykn ykc] 26 (0, 0))) w4.drew := HB4.out
      have HT := Lib.hid (hs.exp n3 w4.drew (HR4.out.step hbd) (bind_dry (by rw [← HEQ2.out]; exact HDRY.out)))
      have HYLd := Lib.hid (HYL4.out.step _ hbd)
      have HGd := Lib.hid (grown_trans HG4.out (grown_below hbd _))
      have HBd := Lib.hid hS
      have hzd : w4.drew.heap.size = w4.heap.size := rfl
      rw [← hzd] at hz4 hz4g
      refine start_fp (N := 20) [(0, .pointer (some ⟨S.g, 0, none⟩)), (1, .int .i64 kd), (2, .int .i64 (fr : Int)), (6, .pointer (some ⟨w.heap.size, 0, none⟩)), (7, .pointer (some ⟨b4, 0, none⟩))] (Fs.of rfl rfl (by simp [Act.eval])) ?_
      intro a0 ha0 hF
      clear hzd hbd HR4 HG4 HYL4 HB4
      generalize w4.drew = wd at *
      refine take_fp 0 [7, 8] (oi := { dst := some 12, op := Op.move (Operand.tmp 0), type := 56, pos := "terms.go:43", after := #[], guard := none }) (d := 12) (v := .pointer (some ⟨S.g, 0, none⟩)) hF hS rfl rfl (by decide) (by kernel_rfl) (by kernel_rfl) (by kernel_rfl) (by kernel_rfl) (fun _ _ _ h => h) (fun a' hA => wanted_none rfl) (run_move_fs rfl rfl) ?_
      clear hF
      intro hF
      refine take_fp 1 [7, 8] (oi := { dst := some 13, op := Op.move (Operand.tmp 1), type := 3, pos := "terms.go:43", after := #[], guard := none }) (d := 13) (v := .int .i64 kd) hF hS rfl rfl (by decide) (by kernel_rfl) (by kernel_rfl) (by kernel_rfl) (by kernel_rfl) (fun _ _ _ h => h) (fun a' hA => wanted_none rfl) (run_move_fs rfl rfl) ?_
      clear hF
      intro hF
      refine take_fp 2 [7, 8] (oi := { dst := some 14, op := Op.move (Operand.tmp 2), type := 3, pos := "terms.go:43", after := #[], guard := none }) (d := 14) (v := .int .i64 (fr : Int)) hF hS rfl rfl (by decide) (by kernel_rfl) (by kernel_rfl) (by kernel_rfl) (by kernel_rfl) (fun _ _ _ h => h) (fun a' hA => wanted_none rfl) (run_move_fs rfl rfl) ?_
      clear hF
      intro hF
      refine take_fp 3 [6, 7, 8] (oi := { dst := some 15, op := Op.load 26 (Operand.tmp 7), type := 26, pos := "terms.go:43", after := #[], guard := none }) (d := 15) (v := .agg #[.int .i64 yk, .int .i64 ym, .int .i64 yf, .int .i64 yt, .slice ynp ynn ync, .slice ykp ykn ykc]) hF hS rfl rfl (by decide) (by kernel_rfl) (by kernel_rfl) (by kernel_rfl) (by kernel_rfl) (fun _ _ _ h => h) (fun a' hA => wanted_none rfl) (fun a' hA w' hw => by have e7 := hA.get 7 rfl; have ec : ∀ v, a'.eval (.const v) = v := fun _ => rfl; have qq := Lib.cell_of_heap hw; have q0 := qq 0; have q1 := qq 1; have q2 := qq 2; have q3 := qq 3; have q4 := qq 4; have q5 := qq 5; simp only [List.getElem?_toArray, List.getElem?_cons_zero, List.getElem?_cons_succ] at q0 q1 q2 q3 q4 q5; clear qq; clear hA; generalize a'.eval = ρ at *; simp [go_sem, ec, e7, q0, q1, q2, q3, q4, q5]; try rfl) ?_
      clear hF
      intro hF
      refine take_fp 4 [5, 6, 7, 8] (oi := { dst := some 16, op := Op.move (Operand.tmp 0), type := 56, pos := "terms.go:43", after := #[], guard := none }) (d := 16) (v := .pointer (some ⟨S.g, 0, none⟩)) hF hS rfl rfl (by decide) (by kernel_rfl) (by kernel_rfl) (by kernel_rfl) (by kernel_rfl) (fun _ _ _ h => h) (fun a' hA => wanted_none rfl) (run_move_fs rfl rfl) ?_
      clear hF
      intro hF
      refine wpTill_alone 5 (by kernel_rfl) (call_op 5 (oi := { dst := some 17, op := Op.call { callee := Callee.value (Operand.func 32), args := #[Operand.tmp 16], argTypes := #[56] }, type := 26, pos := "terms.go:43", after := #[{ on := 4, ground := Ground.data }], guard := none }) (d := 17) (R := fun e w' => Ends S d wd (rec .exp d n3) (RB wd) e w') hF rfl rfl (by decide) (fun a' hA => wanted_none rfl) (fun a' hA => by have e16 := hA.get 16 rfl; have ef : ∀ f, a'.eval (.func f) = .func (.func f) #[] #[] := fun _ => rfl; have ec : ∀ v, a'.eval (.const v) = v := fun _ => rfl; clear hA; generalize a'.eval = ρ at *; simp [go_sem, ef, ec, e16]) HT.out (fun w' => Ends.noOut) ?_ ?_)
      · rintro ch w' (⟨_, _, _, _, h2, _⟩ | ⟨ch', ho, h2, hg⟩)
        · cases h2
        · have h2 := Ending.panicked.inj h2
          subst h2
          have hq : bodyPost Tryz.prog Tryz.f51 (fun e w' => Ends S d w tot (RB w) e w') (.panic ch) _ w' := ⟨hF.2.1, Or.inr ⟨ch, by rw [HEQ2.out]; exact pan_bind ho, rfl, grown_trans (grown_below ((Below.refl _ _).alloc (Nat.le_refl _) _) _) (grown_trans HGd.out hg)⟩⟩
          exact hq
      rintro v w5 (⟨c, n5, v', hco, h2, ⟨z, hv, hzl, hzo, hzp⟩, hr5, hg5⟩ | ⟨_, _, h2, _⟩) hF2
      rotate_left
      · cases h2
      have h2 := Ending.returned.inj h2
      subst h2
      obtain ⟨⟨zk, zm, zf, zt, znp, znn, znc, zns, zkp, zkn, zkc⟩, zks⟩ := z
      have hv2 : v = .agg #[.int .i64 zk, .int .i64 zm, .int .i64 zf, .int .i64 zt, .slice znp znn znc, .slice zkp zkn zkc] := hv
      subst hv2
      clear hv hF
      have hF := hF2
      clear hF2
      have hb6 : Below w5.heap.size w5 (w5.alloc (.cells #[.int .i64 yk, .int .i64 ym, .int .i64 yf, .int .i64 yt, .slice ynp ynn ync, .slice ykp ykn ykc, .int .i64 zk, .int .i64 zm, .int .i64 zf, .int .i64 zt, .slice znp znn znc, .slice zkp zkn zkc] 26)) := (Below.refl _ _).alloc (Nat.le_refl _) _
      have hz5 : wd.heap.size ≤ w5.heap.size := hg5.size
      have hB5 : (fun W : World => W.heap[b4]? = some (.cells #[.int .i64 yk, .int .i64 ym, .int .i64 yf, .int .i64 yt, .slice ynp ynn ync, .slice ykp ykn ykc] 26 (0, 0))) w5 := (hg5.block b4 (by omega) (fun e => by have := Option.some.inj e; omega)).trans HBd.out
      have hB6 : (fun W : World => W.heap[b4]? = some (.cells #[.int .i64 yk, .int .i64 ym, .int .i64 yf, .int .i64 yt, .slice ynp ynn ync, .slice ykp ykn ykc] 26 (0, 0))) (w5.alloc (.cells #[.int .i64 yk, .int .i64 ym, .int .i64 yf, .int .i64 yt, .slice ynp ynn ync, .slice ykp ykn ykc, .int .i64 zk, .int .i64 zm, .int .i64 zf, .int .i64 zt, .slice znp znn znc, .slice zkp zkn zkc] 26)) := (hb6.block b4 (by omega)).trans hB5
      have HK6 := Lib.hid (heap_alloc_new w5 (.cells #[.int .i64 yk, .int .i64 ym, .int .i64 yf, .int .i64 yt, .slice ynp ynn ync, .slice ykp ykn ykc, .int .i64 zk, .int .i64 zm, .int .i64 zf, .int .i64 zt, .slice znp znn znc, .slice zkp zkn zkc] 26))
      have HR6 := Lib.hid (hr5.step hb6)
      have HYL6 : Hid (Br.Lies (w5.alloc (.cells #[.int .i64 yk, .int .i64 ym, .int .i64 yf, .int .i64 yt, .slice ynp ynn ync, .slice ykp ykn ykc, .int .i64 zk, .int .i64 zm, .int .i64 zf, .int .i64 zt, .slice znp znn znc, .slice zkp zkn zkc] 26)) (Br.mk ⟨yk, ym, yf, yt, ynp, ynn, ync, yns, ykp, ykn, ykc⟩ yks)) := Lib.hid ((Br.Lies.kept (P := fun q => w.heap.size + 1 ≤ q) _ hg5.size (fun q hq hlt => hg5.block q hlt (fun e => by have := Option.some.inj e; omega)) HYO.out HYLd.out).step _ hb6)
      have HZL6 : Hid (Br.Lies (w5.alloc (.cells #[.int .i64 yk, .int .i64 ym, .int .i64 yf, .int .i64 yt, .slice ynp ynn ync, .slice ykp ykn ykc, .int .i64 zk, .int .i64 zm, .int .i64 zf, .int .i64 zt, .slice znp znn znc, .slice zkp zkn zkc] 26)) (Br.mk ⟨zk, zm, zf, zt, znp, znn, znc, zns, zkp, zkn, zkc⟩ zks)) := Lib.hid (hzl.step _ hb6)
      have HZO : Hid (Br.On (fun q => w.heap.size + 1 ≤ q ∧ some q ≠ some w5.heap.size) (Br.mk ⟨zk, zm, zf, zt, znp, znn, znc, zns, zkp, zkn, zkc⟩ zks)) := Lib.hid ((Br.On.low _ hzo hzl).mono (fun q hq => ⟨by have := hq.1; omega, fun e => by have := Option.some.inj e; have := hq.2; omega⟩) _)
      have HYO6 : Hid (Br.On (fun q => w.heap.size + 1 ≤ q ∧ some q ≠ some w5.heap.size) (Br.mk ⟨yk, ym, yf, yt, ynp, ynn, ync, yns, ykp, ykn, ykc⟩ yks)) := Lib.hid ((Br.On.low _ HYO.out HYLd.out).mono (fun q hq => ⟨hq.1, fun e => by have := Option.some.inj e; have := hq.2; omega⟩) _)
      have HG6 := Lib.hid (grown_trans (grown_trans HGd.out hg5) (grown_below hb6 _))
      have HEQ3 : Hid (tot = .ok (node kd fr n5 [] [Br.pb (Br.mk ⟨yk, ym, yf, yt, ynp, ynn, ync, yns, ykp, ykn, ykc⟩ yks), Br.pb (Br.mk ⟨zk, zm, zf, zt, znp, znn, znc, zns, zkp, zkn, zkc⟩ zks)]) n5) := Lib.hid (by rw [HEQ2.out, hco, bind_ok, hzp])
      have hk5 : w.heap.size + 1 ≤ w5.heap.size := by omega
      have HBR := Lib.hid (rbranch_any S n5 d kd fr none 0 0 (some ⟨w5.heap.size, 0, none⟩) 2 2 _ HR6.out)
      refine ⟨fun _ => hB5, ?_⟩
      refine wpTill_alone 6 (by kernel_rfl) (make_op 6 (oi := { dst := some 18, op := Op.buildSlice 24 2 #[(0, Operand.tmp 15), (1, Operand.tmp 17)], type := 24, pos := "terms.go:43", after := #[{ on := 3, ground := Ground.data }, { on := 5, ground := Ground.data }], guard := none }) (d := 18) (v := .slice (some ⟨w5.heap.size, 0, none⟩) 2 2) (w' := w5.alloc (.cells #[.int .i64 yk, .int .i64 ym, .int .i64 yf, .int .i64 yt, .slice ynp ynn ync, .slice ykp ykn ykc, .int .i64 zk, .int .i64 zm, .int .i64 zf, .int .i64 zt, .slice znp znn znc, .slice zkp zkn zkc] 26)) hF rfl rfl (by decide) (fun a' hA => wanted_none rfl) (fun a' hA => by have e15 := hA.get 15 rfl; have e17 := hA.get 17 rfl; have ec : ∀ v, a'.eval (.const v) = v := fun _ => rfl; clear hA; generalize a'.eval = ρ at *; simp [go_sem, ec, e15, e17]; try rfl) ?_)
      clear hF
      intro hF
      refine ⟨fun _ => hB6, ?_⟩
      refine wpTill_alone 7 (by kernel_rfl) (call_op 7 (oi := { dst := some 19, op := Op.call { callee := Callee.value (Operand.func 38), args := #[Operand.tmp 12, Operand.tmp 13, Operand.tmp 14, Operand.const (Value.slice none 0 0), Operand.tmp 18], argTypes := #[56, 3, 3, 23, 24] }, type := 26, pos := "terms.go:43", after := #[{ on := 0, ground := Ground.data }, { on := 1, ground := Ground.data }, { on := 2, ground := Ground.data }, { on := 6, ground := Ground.data }, { on := 5, ground := Ground.chain }], guard := none }) (d := 19) (R := fun e w' => e = .returned (.agg #[.int .i64 kd, .int .i64 0, .int .i64 (fr : Int), .int .i64 (n5 : Int), .slice none 0 0, .slice (some ⟨w5.heap.size, 0, none⟩) 2 2]) ∧ Below (w5.alloc (.cells #[.int .i64 yk, .int .i64 ym, .int .i64 yf, .int .i64 yt, .slice ynp ynn ync, .slice ykp ykn ykc, .int .i64 zk, .int .i64 zm, .int .i64 zf, .int .i64 zt, .slice znp znn znc, .slice zkp zkn zkc] 26)).heap.size (w5.alloc (.cells #[.int .i64 yk, .int .i64 ym, .int .i64 yf, .int .i64 yt, .slice ynp ynn ync, .slice ykp ykn ykc, .int .i64 zk, .int .i64 zm, .int .i64 zf, .int .i64 zt, .slice znp znn znc, .slice zkp zkn zkc] 26)) w') hF rfl rfl (by decide) (fun a' hA => wanted_none rfl) (fun a' hA => by have e12 := hA.get 12 rfl; have e13 := hA.get 13 rfl; have e14 := hA.get 14 rfl; have e18 := hA.get 18 rfl; have ef : ∀ f, a'.eval (.func f) = .func (.func f) #[] #[] := fun _ => rfl; have ec : ∀ v, a'.eval (.const v) = v := fun _ => rfl; clear hA; generalize a'.eval = ρ at *; simp [go_sem, ef, ec, e12, e13, e14, e18]) HBR.out (by rintro w' ⟨h, _⟩; cases h) ?_ ?_)
      · rintro ch w' ⟨h, _⟩
        cases h
      rintro v w7 ⟨h, hb7⟩
      have h := Ending.returned.inj h
      subst h
      have hz6 : (w5.alloc (.cells #[.int .i64 yk, .int .i64 ym, .int .i64 yf, .int .i64 yt, .slice ynp ynn ync, .slice ykp ykn ykc, .int .i64 zk, .int .i64 zm, .int .i64 zf, .int .i64 zt, .slice znp znn znc, .slice zkp zkn zkc] 26)).heap.size = w5.heap.size + 1 := by simp
      refine fun hF2 => ⟨fun _ => (hb7.block b4 (by omega)).trans hB6, ?_⟩
      clear hF
      have hF := hF2
      clear hF2
      have hown := own_lit (n := 2) (size := 6) (w := w7) (base := w.heap.size + 1) ((hb7.block _ (Array.getElem?_eq_some_iff.1 HK6.out).1).trans HK6.out) hk5 rfl (by unfold maxLen; omega)
      have hK : Kids (w.heap.size + 1) (.slice (some ⟨w5.heap.size, 0, none⟩) 2 2) w7 [(Br.mk ⟨yk, ym, yf, yt, ynp, ynn, ync, yns, ykp, ykn, ykc⟩ yks), (Br.mk ⟨zk, zm, zf, zt, znp, znn, znc, zns, zkp, zkn, zkc⟩ zks)] := fun u hu => by
        rcases List.mem_cons.1 hu with rfl | hu
        · exact ⟨HYL6.out.step _ hb7, HYO6.out.mono (fun q hq => ⟨hq.1, fun e => hq.2 e⟩) _⟩
        · obtain rfl := List.mem_singleton.1 hu
          exact ⟨HZL6.out.step _ hb7, HZO.out.mono (fun q hq => ⟨hq.1, fun e => hq.2 e⟩) _⟩
      have HL := node_lies (w0 := w) (w1 := w) (N := w.heap.size + 1) kd 0 fr n5 (names_none (w := w7)) hown hK
      have FIN := Lib.hid (fin_box (o := tot) (node kd fr n5 [] [Br.pb (Br.mk ⟨yk, ym, yf, yt, ynp, ynn, ync, yns, ykp, ykn, ykc⟩ yks), Br.pb (Br.mk ⟨zk, zm, zf, zt, znp, znn, znc, zns, zkp, zkn, zkc⟩ zks)]) kd 0 fr n5 none 0 0 _ (some ⟨w5.heap.size, 0, none⟩) 2 2 [(Br.mk ⟨yk, ym, yf, yt, ynp, ynn, ync, yns, ykp, ykn, ykc⟩ yks), (Br.mk ⟨zk, zm, zf, zt, znp, znn, znc, zns, zkp, zkn, zkc⟩ zks)] (HR6.out.step hb7) (grown_trans HG6.out (grown_below hb7 _)) hgl hgwl HEQ3.out HL.1 HL.2 (by simp [Br.pb, pbs, node]))
      refine wpTill_alone 8 (by kernel_rfl) (store_op 8 (oi := { dst := none, op := Op.store 26 (Operand.tmp 6) (Operand.tmp 19), type := 0, pos := "terms.go:43", after := #[{ on := 7, ground := Ground.data }, { on := 7, ground := Ground.chain }, { on := 0, ground := Ground.phase }, { on := 1, ground := Ground.phase }, { on := 2, ground := Ground.phase }, { on := 3, ground := Ground.phase }, { on := 4, ground := Ground.phase }, { on := 5, ground := Ground.phase }, { on := 6, ground := Ground.phase }, { on := 7, ground := Ground.phase }], guard := none }) (w' := ((((((w7.setCell ⟨w.heap.size, 0, none⟩ (.int .i64 kd)).setCell ⟨w.heap.size, 1, none⟩ (.int .i64 0)).setCell ⟨w.heap.size, 2, none⟩ (.int .i64 (fr : Int))).setCell ⟨w.heap.size, 3, none⟩ (.int .i64 (n5 : Int))).setCell ⟨w.heap.size, 4, none⟩ (.slice none 0 0)).setCell ⟨w.heap.size, 5, none⟩ (.slice (some ⟨w5.heap.size, 0, none⟩) 2 2))) hF rfl rfl (fun a' hA => wanted_none rfl) (fun a' hA => ?_) ?_)
      · have e3 := hA.get 6 rfl
        have e15 := hA.get 19 rfl
        have c0 := FIN.out.c0
        have c1 := FIN.out.c1
        have c2 := FIN.out.c2
        have c3 := FIN.out.c3
        have c4 := FIN.out.c4
        have c5 := FIN.out.c5
        have f0 := FIN.out.fz 0
        have f1 := FIN.out.fz 1
        have f2 := FIN.out.fz 2
        have f3 := FIN.out.fz 3
        have f4 := FIN.out.fz 4
        have f5 := FIN.out.fz 5
        clear hA hF
        generalize a'.eval = ρ at *
        simp [go_sem, e3, e15, c0, c1, c2, c3, c4, c5, f0, f1, f2, f3, f4, f5]
      refine ⟨fun h => absurd h (by decide), ?_⟩
      refine wpTill_done (by kernel_rfl) ?_ _
      subst ha0
      simp only [Act.put, List.setIfInBounds_toArray, List.set_cons_zero, List.set_cons_succ]
      clear HL hown hK hb7 hB6 hB5 hb6 hr5 hg5 hco hzl hzo hzp hF hS
      go_wp2_with fail
      obtain ⟨_, _, _, _, _, _, _, d0, d1, d2, d3, d4, d5, hfin⟩ := FIN.out
      refine bodyPost_ret (by simp [results, Tryz.results51, go_sem, d0, d1, d2, d3, d4, d5, Result.andThen]; try rfl) rfl ?_
      exact hfin
    · exact ⟨rfl, Or.inr ⟨ch, by rw [HEQ.out]; exact pan_bind ho, rfl, grown_trans (grown_below ((Below.refl _ _).alloc (Nat.le_refl _) _) _) (grown_trans HG3.out hg4)⟩⟩
  · exact ⟨rfl, Or.inr ⟨ch, by rw [HTOT.out]; exact pan_bind ho, rfl, grown_trans (grown_below ((Below.refl _ _).alloc (Nat.le_refl _) _) _) hg2⟩⟩
end Go.Proofs.YtkjgkchdkeggoaaGreatDoor
