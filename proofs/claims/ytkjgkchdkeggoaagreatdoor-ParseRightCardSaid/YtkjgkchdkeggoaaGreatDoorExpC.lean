/-
  The reader's exp: what lies within one part.
-/
import Derived.Test.YtkjgkchdkeggoaaGreatDoorKeep
import Derived.Test.YtkjgkchdkeggoaaGreatDoorArm
namespace Go.Proofs.YtkjgkchdkeggoaaGreatDoor
open Go.RowKit
set_option maxRecDepth 20000
set_option linter.unusedVariables false
set_option linter.unusedSimpArgs false

theorem cfn50 (args : Array Value) (w : World) : Sem.run Tryz.prog (callFunc 50 args) w = .ok (.enter 50 args) w := cf_enter Tryz.func50 (by kernel_rfl) (by kernel_rfl) args w
set_option maxHeartbeats 4000000 in
theorem expC_any (S : Src) (F : Nat) (rec : Nt → Nat → Nat → Out Pb) (d : Nat) (hs : Said S rec d) (hF0 : F ≤ 1000000000) (bx : Nat) (n : Nat) (w : World) (h : Rd w S n d) (hx0 : w.heap[bx]? = some (.cells #[.pointer (some ⟨S.g, 0, none⟩)] 56 (0, 0))) (hg0 : bx ≠ S.g)
    (hI : ∀ k w', Rd w' S k d → infixO S F rec d k ≠ .dry → Calls Tryz.prog 52 #[.pointer (some ⟨S.g, 0, none⟩)] w' fun e w'' => Ends S d w' (infixO S F rec d k) (RB w') e w'') (hdry : expO S F rec d n ≠ .dry) :
    Calls Tryz.prog 47 #[.int .i64 (n : Int), .pointer (some ⟨bx, 0, none⟩)] w fun e w' => Ends S d w (expO S F rec d n) (RB w) e w' := by
  have hgl := h.lt
  have hgwl := h.row
  have hbd := h.bound
  have ST0 := Lib.hid (St.init h [(bx, Obj.cells #[.pointer (some ⟨S.g, 0, none⟩)] 56 (0, 0))] (fun p hp => by
    obtain rfl := List.mem_singleton.1 hp
    exact ⟨hx0, hg0⟩))
  have HS := Lib.hid hs
  have HIX := Lib.hid hI
  obtain ⟨tot, htot⟩ : ∃ tot, tot = expO S F rec d n := ⟨_, rfl⟩
  have HD : Hid (tot ≠ .dry) := Lib.hid (by rw [htot]; exact hdry)
  rw [← htot]
  unfold expO at htot
  have EQ0 := Lib.hid htot
  clear h hdry htot hs hI hx0 hg0
  cases hif : S.is n [105, 102]
  · have e2 := EQ0.out
    simp only [hif, cond_false] at e2
    have EQ2 := Lib.hid e2
    clear e2 EQ0
    cases hcase : S.is n [99, 97, 115, 101]
    · have e3 := EQ2.out
      simp only [hcase, cond_false] at e3
      have EQ3 := Lib.hid e3
      clear e3 EQ2
      cases hfn : S.is n [102, 110]
      · have e4 := EQ3.out
        simp only [hfn, cond_false] at e4
        have EQ4 := Lib.hid e4
        clear e4 EQ3
        go_enter Tryz.func47, Tryz.ntmps47
        have qx0 := ST0.out.xc (b := bx) (v := .pointer (some ⟨S.g, 0, none⟩)) (T := 56) (by simp)
        have HP := Lib.hid (rpass_any S (n) d ⟨#[105, 102]⟩ _ ST0.out.rd (by simp))
        simp only [hif, cond_true, cond_false] at HP
        go_wp2_with fail
        refine HP.out.mono ?_
        rintro e w5 ⟨rfl, hr, hg⟩
        have ST6 := Lib.hid (ST0.out.grow hr hg)
        clear hr hg ST0 HP
        clear qx0
        have qx0 := ST6.out.xc (b := bx) (v := .pointer (some ⟨S.g, 0, none⟩)) (T := 56) (by simp)
        have HP := Lib.hid (rpass_any S (n) d ⟨#[99, 97, 115, 101]⟩ _ ST6.out.rd (by simp))
        simp only [hcase, cond_true, cond_false] at HP
        go_wp2_with fail
        refine HP.out.mono ?_
        rintro e w7 ⟨rfl, hr, hg⟩
        have ST8 := Lib.hid (ST6.out.grow hr hg)
        clear hr hg ST6 HP
        clear qx0
        have qx0 := ST8.out.xc (b := bx) (v := .pointer (some ⟨S.g, 0, none⟩)) (T := 56) (by simp)
        have HP := Lib.hid (rpass_any S (n) d ⟨#[102, 110]⟩ _ ST8.out.rd (by simp))
        simp only [hfn, cond_true, cond_false] at HP
        go_wp2_with fail
        refine HP.out.mono ?_
        rintro e w9 ⟨rfl, hr, hg⟩
        have ST10 := Lib.hid (ST8.out.grow hr hg)
        clear hr hg ST8 HP
        clear qx0
        have qx0 := ST10.out.xc (b := bx) (v := .pointer (some ⟨S.g, 0, none⟩)) (T := 56) (by simp)
        have HC := Lib.hid (HIX.out ((n)) _ ST10.out.rd (by rw [← EQ4.out]; exact HD.out))
        go_wp2_with fail
        refine HC.out.mono ?_
        rintro e w11 (⟨x11, n11, v11, hpo, rfl, ⟨y11, hv, hyl, hyo, rfl⟩, hr, hg⟩ | ⟨ch, ho, rfl, hg⟩)
        rotate_left
        · exact ⟨rfl, Or.inr ⟨ch, by rw [EQ4.out]; exact ho, rfl, ST10.out.pan hg⟩⟩
        have EQ12 := Lib.hid (EQ4.out.trans hpo)
        clear EQ4
        have HY11 := Lib.hid (And.intro hyl (hyo.mono (fun q hq => Nat.le_trans ST10.out.size hq) _))
        simp only [Hd.val] at hv
        subst hv
        have ST13 := Lib.hid (ST10.out.grow hr hg)
        clear hr hg ST10 hyl hyo hpo HC
        clear qx0
        have qx0 := ST13.out.xc (b := bx) (v := .pointer (some ⟨S.g, 0, none⟩)) (T := 56) (by simp)
        have FIN := Lib.hid (ST13.out.finY hgl hgwl HY11.out.1 HY11.out.2 EQ12.out)
        clear ST13 HY11 EQ12
        clear qx0
        have c0 := FIN.out.c0
        have c1 := FIN.out.c1
        have c2 := FIN.out.c2
        have c3 := FIN.out.c3
        have c4 := FIN.out.c4
        have c5 := FIN.out.c5
        have f0 := FIN.out.fz 0
        have f1 := FIN.out.fz 1
        have f2 := FIN.out.fz 2
        have f3 := FIN.out.fz 3
        have f4 := FIN.out.fz 4
        have f5 := FIN.out.fz 5
        go_wp2_with fail
        obtain ⟨_, _, _, _, _, _, _, d0, d1, d2, d3, d4, d5, hfin⟩ := FIN.out
        refine bodyPost_ret (by simp [results, Tryz.results47, go_sem, d0, d1, d2, d3, d4, d5, Result.andThen]; try rfl) rfl ?_
        exact hfin
      · have e4 := EQ3.out
        simp only [hfn, cond_true] at e4
        have EQ4 := Lib.hid e4
        clear e4 EQ3
        go_enter Tryz.func47, Tryz.ntmps47
        have qx0 := ST0.out.xc (b := bx) (v := .pointer (some ⟨S.g, 0, none⟩)) (T := 56) (by simp)
        have HP := Lib.hid (rpass_any S (n) d ⟨#[105, 102]⟩ _ ST0.out.rd (by simp))
        simp only [hif, cond_true, cond_false] at HP
        go_wp2_with fail
        refine HP.out.mono ?_
        rintro e w5 ⟨rfl, hr, hg⟩
        have ST6 := Lib.hid (ST0.out.grow hr hg)
        clear hr hg ST0 HP
        clear qx0
        have qx0 := ST6.out.xc (b := bx) (v := .pointer (some ⟨S.g, 0, none⟩)) (T := 56) (by simp)
        have HP := Lib.hid (rpass_any S (n) d ⟨#[99, 97, 115, 101]⟩ _ ST6.out.rd (by simp))
        simp only [hcase, cond_true, cond_false] at HP
        go_wp2_with fail
        refine HP.out.mono ?_
        rintro e w7 ⟨rfl, hr, hg⟩
        have ST8 := Lib.hid (ST6.out.grow hr hg)
        clear hr hg ST6 HP
        clear qx0
        have qx0 := ST8.out.xc (b := bx) (v := .pointer (some ⟨S.g, 0, none⟩)) (T := 56) (by simp)
        have HP := Lib.hid (rpass_any S (n) d ⟨#[102, 110]⟩ _ ST8.out.rd (by simp))
        simp only [hfn, cond_true, cond_false] at HP
        go_wp2_with fail
        refine HP.out.mono ?_
        rintro e w9 ⟨rfl, hr, hg⟩
        have ST10 := Lib.hid (ST8.out.grow hr hg)
        clear hr hg ST8 HP
        clear qx0
        have qx0 := ST10.out.xc (b := bx) (v := .pointer (some ⟨S.g, 0, none⟩)) (T := 56) (by simp)
        have HC := Lib.hid (clause_any S rec d HS.out 34 n ((n + 1)) _ ST10.out.rd (by rw [← EQ4.out]; exact HD.out))
        go_wp2_with fail
        refine HC.out.mono ?_
        rintro e w11 (⟨x11, n11, v11, hpo, rfl, ⟨y11, hv, hyl, hyo, rfl⟩, hr, hg⟩ | ⟨ch, ho, rfl, hg⟩)
        rotate_left
        · exact ⟨rfl, Or.inr ⟨ch, by rw [EQ4.out]; exact ho, rfl, ST10.out.pan hg⟩⟩
        have EQ12 := Lib.hid (EQ4.out.trans hpo)
        clear EQ4
        have HY11 := Lib.hid (And.intro hyl (hyo.mono (fun q hq => Nat.le_trans ST10.out.size hq) _))
        simp only [Hd.val] at hv
        subst hv
        have ST13 := Lib.hid (ST10.out.grow hr hg)
        clear hr hg ST10 hyl hyo hpo HC
        clear qx0
        have qx0 := ST13.out.xc (b := bx) (v := .pointer (some ⟨S.g, 0, none⟩)) (T := 56) (by simp)
        have FIN := Lib.hid (ST13.out.finY hgl hgwl HY11.out.1 HY11.out.2 EQ12.out)
        clear ST13 HY11 EQ12
        clear qx0
        have c0 := FIN.out.c0
        have c1 := FIN.out.c1
        have c2 := FIN.out.c2
        have c3 := FIN.out.c3
        have c4 := FIN.out.c4
        have c5 := FIN.out.c5
        have f0 := FIN.out.fz 0
        have f1 := FIN.out.fz 1
        have f2 := FIN.out.fz 2
        have f3 := FIN.out.fz 3
        have f4 := FIN.out.fz 4
        have f5 := FIN.out.fz 5
        go_wp2_with fail
        obtain ⟨_, _, _, _, _, _, _, d0, d1, d2, d3, d4, d5, hfin⟩ := FIN.out
        refine bodyPost_ret (by simp [results, Tryz.results47, go_sem, d0, d1, d2, d3, d4, d5, Result.andThen]; try rfl) rfl ?_
        exact hfin
    · have e3 := EQ2.out
      simp only [hcase, cond_true] at e3
      have EQ3 := Lib.hid e3
      clear e3 EQ2
      go_enter Tryz.func47, Tryz.ntmps47
      have qx0 := ST0.out.xc (b := bx) (v := .pointer (some ⟨S.g, 0, none⟩)) (T := 56) (by simp)
      have HP := Lib.hid (rpass_any S (n) d ⟨#[105, 102]⟩ _ ST0.out.rd (by simp))
      simp only [hif, cond_true, cond_false] at HP
      go_wp2_with fail
      refine HP.out.mono ?_
      rintro e w4 ⟨rfl, hr, hg⟩
      have ST5 := Lib.hid (ST0.out.grow hr hg)
      clear hr hg ST0 HP
      clear qx0
      have qx0 := ST5.out.xc (b := bx) (v := .pointer (some ⟨S.g, 0, none⟩)) (T := 56) (by simp)
      have HP := Lib.hid (rpass_any S (n) d ⟨#[99, 97, 115, 101]⟩ _ ST5.out.rd (by simp))
      simp only [hcase, cond_true, cond_false] at HP
      go_wp2_with fail
      refine HP.out.mono ?_
      rintro e w6 ⟨rfl, hr, hg⟩
      have ST7 := Lib.hid (ST5.out.grow hr hg)
      clear hr hg ST5 HP
      clear qx0
      have qx0 := ST7.out.xc (b := bx) (v := .pointer (some ⟨S.g, 0, none⟩)) (T := 56) (by simp)
      have HC := Lib.hid (HS.out.exp ((n + 1)) _ ST7.out.rd (bind_dry (by rw [← EQ3.out]; exact HD.out)))
      go_wp2_with fail
      refine HC.out.mono ?_
      rintro e w8 (⟨x8, n8, v8, hpo, rfl, ⟨y8, hv, hyl, hyo, rfl⟩, hr, hg⟩ | ⟨ch, ho, rfl, hg⟩)
      rotate_left
      · exact ⟨rfl, Or.inr ⟨ch, by rw [EQ3.out]; exact pan_bind (ho), rfl, ST7.out.pan hg⟩⟩
      have e9 := EQ3.out
      rw [show _ = Out.ok _ _ from hpo, bind_ok] at e9
      have EQ9 := Lib.hid e9
      clear e9 EQ3
      have HY8 := Lib.hid (And.intro hyl (hyo.mono (fun q hq => Nat.le_trans ST7.out.size hq) _))
      simp only [Hd.val] at hv
      subst hv
      have ST10 := Lib.hid (ST7.out.grow hr hg)
      clear hr hg ST7 hyl hyo hpo HC
      clear qx0
      have qx0 := ST10.out.xc (b := bx) (v := .pointer (some ⟨S.g, 0, none⟩)) (T := 56) (by simp)
      have hys11 : ∀ u ∈ [y8], u.Lies w8 ∧ u.On (fun q => (w.alloc boxZ).heap.size ≤ q) := (List.forall_mem_cons.2 ⟨HY8.out, (fun _ h => nomatch h)⟩)
      have ST11 : Hid (St S _ d _ (w8.alloc (.cells #[.int .i64 y8.h.k, .int .i64 y8.h.m, .int .i64 y8.h.f, .int .i64 y8.h.t, .slice y8.h.np y8.h.nn y8.h.nc, .slice y8.h.kp y8.h.kn y8.h.kc] 26)) _) := Lib.hid (ST10.out.newK [y8] (by simp) hys11)
      clear hys11
      clear qx0
      have qx0 := ST11.out.xc (b := bx) (v := .pointer (some ⟨S.g, 0, none⟩)) (T := 56) (by simp)
      have HC := Lib.hid (rneed_any S ((n8)) d ⟨#[111, 102]⟩ _ ST11.out.rd (by simp))
      go_wp2_with fail
      refine HC.out.mono ?_
      rintro e w12 (⟨x12, n12, v12, hpo, rfl, hv, hr, hg⟩ | ⟨ch, ho, rfl, hg⟩)
      rotate_left
      · exact ⟨rfl, Or.inr ⟨ch, by rw [EQ9.out]; exact pan_bind (ho), rfl, ST11.out.pan hg⟩⟩
      have e13 := EQ9.out
      rw [show _ = Out.ok _ _ from hpo, bind_ok] at e13
      have EQ13 := Lib.hid e13
      clear e13 EQ9
      obtain rfl : v12 = .tuple #[] := hv
      have ST14 := Lib.hid (ST11.out.grow hr hg)
      clear hr hg ST11 hpo HC
      clear qx0
      have qx0 := ST14.out.xc (b := bx) (v := .pointer (some ⟨S.g, 0, none⟩)) (T := 56) (by simp)
      have HC := Lib.hid (rrow_any 50 #[] cfn50 S F ((n12)) d ⟨#[124]⟩ (armO S rec d) _ ST14.out.rd (by simp) hF0 (fun k w' hr hg hnd => arm_any S rec d HS.out k w' hr hnd) (bind_dry (by rw [← EQ13.out]; exact HD.out)))
      go_wp2_with fail
      refine HC.out.mono ?_
      rintro e w15 (⟨x15, n15, v15, hpo, rfl, ⟨y15, hown, hkid, rfl⟩, hr, hg⟩ | ⟨ch, ho, rfl, hg⟩)
      rotate_left
      · exact ⟨rfl, Or.inr ⟨ch, by rw [EQ13.out]; exact pan_bind (ho), rfl, ST14.out.pan hg⟩⟩
      have e16 := EQ13.out
      rw [show _ = Out.ok _ _ from hpo, bind_ok] at e16
      have EQ16 := Lib.hid e16
      clear e16 EQ13
      have hz := ST14.out.size
      have ho := own_base hown hz
      have hkk := hkid.base hz
      have hln := rowO_len hpo
      simp only [List.length_map] at hln
      obtain ⟨p15, c15, hvf, _⟩ := own_pos hown (by omega)
      subst hvf
      have HZ15 := Lib.hid (kids_apart (ST14.out.ks (.slice (some ⟨w8.heap.size, 0, none⟩) 1 1, [y8]) (by simp)).1 hz hkid)
      have ST17 := Lib.hid ((ST14.out.grow hr hg).addK ho hkk)
      clear hr hg ST14 hown hkid ho hkk hz hpo HC
      clear qx0
      have qx0 := ST17.out.xc (b := bx) (v := .pointer (some ⟨S.g, 0, none⟩)) (T := 56) (by simp)
      have HNW := Lib.hid (news_own (ST17.out.ks (.slice (some ⟨p15, 0, none⟩) y15.length c15, y15) (by simp)).1)
      go_wp2_with (at_builtin; refine wpList_appK rfl _ _ rfl ST17 (.slice (some ⟨w8.heap.size, 0, none⟩) 1 1) [y8] y15 (by simp) 1 y15.length c15 rfl rfl ⟨p15, 0, none⟩ rfl rfl HNW.out HZ15.out (by omega) (by omega) ?_)
      intro g18 c18 w18 ST18
      clear HNW HZ15 ST17 hln
      generalize 1 + y15.length = nl18 at *
      clear qx0
      have qx0 := ST18.out.xc (b := bx) (v := .pointer (some ⟨S.g, 0, none⟩)) (T := 56) (by simp)
      have HB := Lib.hid (rbranch_any S (n15) d 32 (n : Nat) none 0 0 (some ⟨g18, 0, none⟩) nl18 c18 _ ST18.out.rd)
      go_wp2_with fail
      refine HB.out.mono ?_
      rintro e w19 ⟨rfl, hb⟩
      have ST20 := Lib.hid (ST18.out.below hb)
      clear hb ST18 HB
      clear qx0
      have qx0 := ST20.out.xc (b := bx) (v := .pointer (some ⟨S.g, 0, none⟩)) (T := 56) (by simp)
      have FIN := Lib.hid (ST20.out.fin (k := 32) (m := 0) (f := n) hgl hgwl St.noN (ST20.out.ks (.slice (some ⟨g18, 0, none⟩) nl18 c18, ([y8] ++ y15)) (by simp)) EQ16.out)
      clear ST20 EQ16
      clear qx0
      have c0 := FIN.out.c0
      have c1 := FIN.out.c1
      have c2 := FIN.out.c2
      have c3 := FIN.out.c3
      have c4 := FIN.out.c4
      have c5 := FIN.out.c5
      have f0 := FIN.out.fz 0
      have f1 := FIN.out.fz 1
      have f2 := FIN.out.fz 2
      have f3 := FIN.out.fz 3
      have f4 := FIN.out.fz 4
      have f5 := FIN.out.fz 5
      go_wp2_with fail
      obtain ⟨_, _, _, _, _, _, _, d0, d1, d2, d3, d4, d5, hfin⟩ := FIN.out
      refine bodyPost_ret (by simp [results, Tryz.results47, go_sem, d0, d1, d2, d3, d4, d5, Result.andThen]; try rfl) rfl ?_
      exact hfin
  · have e2 := EQ0.out
    simp only [hif, cond_true] at e2
    have EQ2 := Lib.hid e2
    clear e2 EQ0
    go_enter Tryz.func47, Tryz.ntmps47
    have qx0 := ST0.out.xc (b := bx) (v := .pointer (some ⟨S.g, 0, none⟩)) (T := 56) (by simp)
    have HP := Lib.hid (rpass_any S (n) d ⟨#[105, 102]⟩ _ ST0.out.rd (by simp))
    simp only [hif, cond_true, cond_false] at HP
    go_wp2_with fail
    refine HP.out.mono ?_
    rintro e w3 ⟨rfl, hr, hg⟩
    have ST4 := Lib.hid (ST0.out.grow hr hg)
    clear hr hg ST0 HP
    clear qx0
    have qx0 := ST4.out.xc (b := bx) (v := .pointer (some ⟨S.g, 0, none⟩)) (T := 56) (by simp)
    have HC := Lib.hid (HS.out.exp ((n + 1)) _ ST4.out.rd (bind_dry (by rw [← EQ2.out]; exact HD.out)))
    go_wp2_with fail
    refine HC.out.mono ?_
    rintro e w5 (⟨x5, n5, v5, hpo, rfl, ⟨y5, hv, hyl, hyo, rfl⟩, hr, hg⟩ | ⟨ch, ho, rfl, hg⟩)
    rotate_left
    · exact ⟨rfl, Or.inr ⟨ch, by rw [EQ2.out]; exact pan_bind (ho), rfl, ST4.out.pan hg⟩⟩
    have e6 := EQ2.out
    rw [show _ = Out.ok _ _ from hpo, bind_ok] at e6
    have EQ6 := Lib.hid e6
    clear e6 EQ2
    have HY5 := Lib.hid (And.intro hyl (hyo.mono (fun q hq => Nat.le_trans ST4.out.size hq) _))
    simp only [Hd.val] at hv
    subst hv
    have ST7 := Lib.hid (ST4.out.grow hr hg)
    clear hr hg ST4 hyl hyo hpo HC
    clear qx0
    have qx0 := ST7.out.xc (b := bx) (v := .pointer (some ⟨S.g, 0, none⟩)) (T := 56) (by simp)
    have hbx := ST7.out.box HY5.out.1 HY5.out.2
    have hsz := ST7.out.size
    have hlt := ST7.out.lt
    have hn1 : ¬ S.g = w5.heap.size := by omega
    have hn2 : ¬ w5.heap.size = S.g := by omega
    have hrb := heap_alloc_new w5 boxZ
    have qq := Lib.cell_of_heap hrb
    have r0 := qq 0
    have r1 := qq 1
    have r2 := qq 2
    have r3 := qq 3
    have r4 := qq 4
    have r5 := qq 5
    simp only [List.getElem?_toArray, List.getElem?_cons_zero, List.getElem?_cons_succ, boxZ] at r0 r1 r2 r3 r4 r5
    have fz : ∀ i, (w5.alloc boxZ).frozen? ⟨w5.heap.size, i, none⟩ = false := fun i => cells_frozen hrb i
    have f0 := fz 0
    have f1 := fz 1
    have f2 := fz 2
    have f3 := fz 3
    have f4 := fz 4
    have f5 := fz 5
    have hm0 : ¬ bx = w5.heap.size := by have := ST7.out.xlt (b := bx) (v := .pointer (some ⟨S.g, 0, none⟩)) (T := 56) (by simp); omega
    have hw0 : ¬ w5.heap.size = bx := fun e => hm0 e.symm
    have qa0 := (ST7.out.below ((Below.refl w5.heap.size w5).alloc (Nat.le_refl _) boxZ)).xc (b := bx) (v := .pointer (some ⟨S.g, 0, none⟩)) (T := 56) (by simp)
    have qb0 := hbx.xc (b := bx) (v := .pointer (some ⟨S.g, 0, none⟩)) (T := 56) (by simp)
    have STx := Lib.hid hbx
    clear hbx hrb qq fz hsz hlt ST7 qx0 HY5
    rename_i K1 hK1 K0 hK0
    show K0 _ _
    refine hK0 _ _ ?_
    refine wpList_step fun K2 hK2 => ?_
    rw [if_pos (wanted_none rfl)]
    unfold Oper.wp
    have hrun : ∀ a : Act, (execOp a.eval { dst := some 4, op := Op.alloc 26, type := 0, pos := "terms.go:19", after := #[], guard := none }).run Tryz.prog w5 = .ok (.value (.pointer (some ⟨w5.heap.size, 0, none⟩))) (w5.alloc boxZ) := fun a => by
      generalize a.eval = ρ
      simp [go_sem]
      try rfl
    rw [hrun, Oper.upon_value]
    refine hK2 _ _ ?_
    clear hrun hK2 hK0
    simp only [Act.put, List.setIfInBounds_toArray, List.set_cons_zero, List.set_cons_succ] at *
    generalize hb8 : w5.heap.size = b8 at *
    generalize w5.alloc boxZ = A8 at *
    clear hb8
    have HC := Lib.hid (rneed_any S ((n5)) d ⟨#[116, 104, 101, 110]⟩ _ STx.out.rd (by simp))
    go_wp2_with fail
    refine HC.out.mono ?_
    rintro e w9 (⟨x9, n9, v9, hpo, rfl, hv, hr, hg⟩ | ⟨ch, ho, rfl, hg⟩)
    rotate_left
    · exact ⟨rfl, Or.inr ⟨ch, by rw [EQ6.out]; exact pan_bind (ho), rfl, STx.out.pan hg⟩⟩
    have e10 := EQ6.out
    rw [show _ = Out.ok _ _ from hpo, bind_ok] at e10
    have EQ10 := Lib.hid e10
    clear e10 EQ6
    obtain rfl : v9 = .tuple #[] := hv
    have ST11 := Lib.hid (STx.out.grow hr hg)
    clear hr hg STx hpo HC
    clear r0 r1 r2 r3 r4 r5 f0 f1 f2 f3 f4 f5 hn1 hn2 hm0 hw0 qa0 qb0
    have qx0 := ST11.out.xc (b := bx) (v := .pointer (some ⟨S.g, 0, none⟩)) (T := 56) (by simp)
    have HC := Lib.hid (HS.out.exp ((n9)) _ ST11.out.rd (bind_dry (by rw [← EQ10.out]; exact HD.out)))
    go_wp2_with fail
    refine HC.out.mono ?_
    rintro e w12 (⟨x12, n12, v12, hpo, rfl, ⟨y12, hv, hyl, hyo, rfl⟩, hr, hg⟩ | ⟨ch, ho, rfl, hg⟩)
    rotate_left
    · exact ⟨rfl, Or.inr ⟨ch, by rw [EQ10.out]; exact pan_bind (ho), rfl, ST11.out.pan hg⟩⟩
    have e13 := EQ10.out
    rw [show _ = Out.ok _ _ from hpo, bind_ok] at e13
    have EQ13 := Lib.hid e13
    clear e13 EQ10
    have HY12 := Lib.hid (And.intro hyl (hyo.mono (fun q hq => Nat.le_trans ST11.out.size hq) _))
    simp only [Hd.val] at hv
    subst hv
    have ST14 := Lib.hid (ST11.out.grow hr hg)
    clear hr hg ST11 hyl hyo hpo HC
    clear qx0
    have qx0 := ST14.out.xc (b := bx) (v := .pointer (some ⟨S.g, 0, none⟩)) (T := 56) (by simp)
    have hbx := ST14.out.box HY12.out.1 HY12.out.2
    have hsz := ST14.out.size
    have hlt := ST14.out.lt
    have hn1 : ¬ S.g = w12.heap.size := by omega
    have hn2 : ¬ w12.heap.size = S.g := by omega
    have hrb := heap_alloc_new w12 boxZ
    have qq := Lib.cell_of_heap hrb
    have r0 := qq 0
    have r1 := qq 1
    have r2 := qq 2
    have r3 := qq 3
    have r4 := qq 4
    have r5 := qq 5
    simp only [List.getElem?_toArray, List.getElem?_cons_zero, List.getElem?_cons_succ, boxZ] at r0 r1 r2 r3 r4 r5
    have fz : ∀ i, (w12.alloc boxZ).frozen? ⟨w12.heap.size, i, none⟩ = false := fun i => cells_frozen hrb i
    have f0 := fz 0
    have f1 := fz 1
    have f2 := fz 2
    have f3 := fz 3
    have f4 := fz 4
    have f5 := fz 5
    have hm0 : ¬ bx = w12.heap.size := by have := ST14.out.xlt (b := bx) (v := .pointer (some ⟨S.g, 0, none⟩)) (T := 56) (by simp); omega
    have hw0 : ¬ w12.heap.size = bx := fun e => hm0 e.symm
    have qa0 := (ST14.out.below ((Below.refl w12.heap.size w12).alloc (Nat.le_refl _) boxZ)).xc (b := bx) (v := .pointer (some ⟨S.g, 0, none⟩)) (T := 56) (by simp)
    have qb0 := hbx.xc (b := bx) (v := .pointer (some ⟨S.g, 0, none⟩)) (T := 56) (by simp)
    have STx := Lib.hid hbx
    clear hbx hrb qq fz hsz hlt ST14 qx0 HY12
    rename_i K1 hK1 K0 hK0
    show K0 _ _
    refine hK0 _ _ ?_
    refine wpList_step fun K2 hK2 => ?_
    rw [if_pos (wanted_none rfl)]
    unfold Oper.wp
    have hrun : ∀ a : Act, (execOp a.eval { dst := some 5, op := Op.alloc 26, type := 0, pos := "terms.go:21", after := #[], guard := none }).run Tryz.prog w12 = .ok (.value (.pointer (some ⟨w12.heap.size, 0, none⟩))) (w12.alloc boxZ) := fun a => by
      generalize a.eval = ρ
      simp [go_sem]
      try rfl
    rw [hrun, Oper.upon_value]
    refine hK2 _ _ ?_
    clear hrun hK2 hK0
    simp only [Act.put, List.setIfInBounds_toArray, List.set_cons_zero, List.set_cons_succ] at *
    generalize hb15 : w12.heap.size = b15 at *
    generalize w12.alloc boxZ = A15 at *
    clear hb15
    have HC := Lib.hid (rneed_any S ((n12)) d ⟨#[101, 108, 115, 101]⟩ _ STx.out.rd (by simp))
    go_wp2_with fail
    refine HC.out.mono ?_
    rintro e w16 (⟨x16, n16, v16, hpo, rfl, hv, hr, hg⟩ | ⟨ch, ho, rfl, hg⟩)
    rotate_left
    · exact ⟨rfl, Or.inr ⟨ch, by rw [EQ13.out]; exact pan_bind (ho), rfl, STx.out.pan hg⟩⟩
    have e17 := EQ13.out
    rw [show _ = Out.ok _ _ from hpo, bind_ok] at e17
    have EQ17 := Lib.hid e17
    clear e17 EQ13
    obtain rfl : v16 = .tuple #[] := hv
    have ST18 := Lib.hid (STx.out.grow hr hg)
    clear hr hg STx hpo HC
    clear r0 r1 r2 r3 r4 r5 f0 f1 f2 f3 f4 f5 hn1 hn2 hm0 hw0 qa0 qb0
    have qx0 := ST18.out.xc (b := bx) (v := .pointer (some ⟨S.g, 0, none⟩)) (T := 56) (by simp)
    go_wp2_with fail
    refine wp_region_till (fun W : World => W.heap[bx]? = some (.cells #[.pointer (some ⟨S.g, 0, none⟩)] 56 (0, 0)) ∧ W.heap[b15]? = some (.cells #[.int .i64 y12.h.k, .int .i64 y12.h.m, .int .i64 y12.h.f, .int .i64 y12.h.t, .slice y12.h.np y12.h.nn y12.h.nc, .slice y12.h.kp y12.h.kn y12.h.kc] 26 (0, 0)) ∧ W.heap[b8]? = some (.cells #[.int .i64 y5.h.k, .int .i64 y5.h.m, .int .i64 y5.h.f, .int .i64 y5.h.t, .slice y5.h.np y5.h.nn y5.h.nc, .slice y5.h.kp y5.h.kn y5.h.kc] 26 (0, 0))) 8 (by kernel_rfl) ?_
    have STd := Lib.hid (ST18.out.below (Below.refl w16.heap.size w16).drew)
    refine start_fp (N := 50) [(0, .int .i64 (n : Int)), (1, .pointer (some ⟨bx, 0, none⟩)), (3, .pointer (some ⟨w.heap.size, 0, none⟩)), (4, .pointer (some ⟨b8, 0, none⟩)), (5, .pointer (some ⟨b15, 0, none⟩))] (Fs.of rfl rfl (by simp [Act.eval])) ?_
    intro a0 ha0 hF
    clear ST18 qx0
    generalize w16.drew = w19 at *
    have hS : (fun W : World => W.heap[bx]? = some (.cells #[.pointer (some ⟨S.g, 0, none⟩)] 56 (0, 0)) ∧ W.heap[b15]? = some (.cells #[.int .i64 y12.h.k, .int .i64 y12.h.m, .int .i64 y12.h.f, .int .i64 y12.h.t, .slice y12.h.np y12.h.nn y12.h.nc, .slice y12.h.kp y12.h.kn y12.h.kc] 26 (0, 0)) ∧ W.heap[b8]? = some (.cells #[.int .i64 y5.h.k, .int .i64 y5.h.m, .int .i64 y5.h.f, .int .i64 y5.h.t, .slice y5.h.np y5.h.nn y5.h.nc, .slice y5.h.kp y5.h.kn y5.h.kc] 26 (0, 0))) w19 := ⟨(STd.out.x (bx, Obj.cells #[.pointer (some ⟨S.g, 0, none⟩)] 56 (0, 0)) (by simp)).1, (STd.out.b (b15, y12) (by simp)).1, (STd.out.b (b8, y5) (by simp)).1⟩
    refine take_fp 0 [7, 8] (oi := { dst := some 18, op := Op.load 56 (Operand.tmp 1), type := 56, pos := "terms.go:23", after := #[], guard := none }) (d := 18) (v := .pointer (some ⟨S.g, 0, none⟩)) hF hS rfl rfl (by decide) (by kernel_rfl) (by kernel_rfl) (by kernel_rfl) (by kernel_rfl) (fun _ _ _ h => h) (fun a' hA => wanted_none rfl) (fun a' hA w' hw => by have e1 := hA.get 1 rfl; have ec : ∀ v, a'.eval (.const v) = v := fun _ => rfl; have q0 := Lib.cell_of_heap hw.1 0; simp only [List.getElem?_toArray, List.getElem?_cons_zero] at q0; clear hA; generalize a'.eval = ρ at *; simp [go_sem, ec, e1, q0]; try rfl) ?_
    clear hF
    intro hF
    refine take_fp 1 [7, 8] (oi := { dst := some 19, op := Op.move (Operand.tmp 0), type := 3, pos := "terms.go:23", after := #[], guard := none }) (d := 19) (v := .int .i64 (n : Int)) hF hS rfl rfl (by decide) (by kernel_rfl) (by kernel_rfl) (by kernel_rfl) (by kernel_rfl) (fun _ _ _ h => h) (fun a' hA => wanted_none rfl) (run_move_fs rfl rfl) ?_
    clear hF
    intro hF
    refine take_fp 2 [6, 7, 8] (oi := { dst := some 20, op := Op.load 26 (Operand.tmp 4), type := 26, pos := "terms.go:23", after := #[], guard := none }) (d := 20) (v := .agg #[.int .i64 y5.h.k, .int .i64 y5.h.m, .int .i64 y5.h.f, .int .i64 y5.h.t, .slice y5.h.np y5.h.nn y5.h.nc, .slice y5.h.kp y5.h.kn y5.h.kc]) hF hS rfl rfl (by decide) (by kernel_rfl) (by kernel_rfl) (by kernel_rfl) (by kernel_rfl) (fun _ _ _ h => h) (fun a' hA => wanted_none rfl) (fun a' hA w' hw => by have e4 := hA.get 4 rfl; have ec : ∀ v, a'.eval (.const v) = v := fun _ => rfl; have qq := Lib.cell_of_heap hw.2.2; have q0 := qq 0; have q1 := qq 1; have q2 := qq 2; have q3 := qq 3; have q4 := qq 4; have q5 := qq 5; simp only [List.getElem?_toArray, List.getElem?_cons_zero, List.getElem?_cons_succ] at q0 q1 q2 q3 q4 q5; clear qq; clear hA; generalize a'.eval = ρ at *; simp [go_sem, ec, e4, q0, q1, q2, q3, q4, q5]; try rfl) ?_
    clear hF
    intro hF
    refine take_fp 3 [6, 7, 8] (oi := { dst := some 21, op := Op.load 26 (Operand.tmp 5), type := 26, pos := "terms.go:23", after := #[], guard := none }) (d := 21) (v := .agg #[.int .i64 y12.h.k, .int .i64 y12.h.m, .int .i64 y12.h.f, .int .i64 y12.h.t, .slice y12.h.np y12.h.nn y12.h.nc, .slice y12.h.kp y12.h.kn y12.h.kc]) hF hS rfl rfl (by decide) (by kernel_rfl) (by kernel_rfl) (by kernel_rfl) (by kernel_rfl) (fun _ _ _ h => h) (fun a' hA => wanted_none rfl) (fun a' hA w' hw => by have e5 := hA.get 5 rfl; have ec : ∀ v, a'.eval (.const v) = v := fun _ => rfl; have qq := Lib.cell_of_heap hw.2.1; have q0 := qq 0; have q1 := qq 1; have q2 := qq 2; have q3 := qq 3; have q4 := qq 4; have q5 := qq 5; simp only [List.getElem?_toArray, List.getElem?_cons_zero, List.getElem?_cons_succ] at q0 q1 q2 q3 q4 q5; clear qq; clear hA; generalize a'.eval = ρ at *; simp [go_sem, ec, e5, q0, q1, q2, q3, q4, q5]; try rfl) ?_
    clear hF
    intro hF
    refine take_fp 4 [5, 6, 7, 8] (oi := { dst := some 22, op := Op.load 56 (Operand.tmp 1), type := 56, pos := "terms.go:23", after := #[], guard := none }) (d := 22) (v := .pointer (some ⟨S.g, 0, none⟩)) hF hS rfl rfl (by decide) (by kernel_rfl) (by kernel_rfl) (by kernel_rfl) (by kernel_rfl) (fun _ _ _ h => h) (fun a' hA => wanted_none rfl) (fun a' hA w' hw => by have e1 := hA.get 1 rfl; have ec : ∀ v, a'.eval (.const v) = v := fun _ => rfl; have q0 := Lib.cell_of_heap hw.1 0; simp only [List.getElem?_toArray, List.getElem?_cons_zero] at q0; clear hA; generalize a'.eval = ρ at *; simp [go_sem, ec, e1, q0]; try rfl) ?_
    clear hF
    intro hF
    refine wpTill_alone 5 (by kernel_rfl) ?_
    have HT := Lib.hid (HS.out.exp ((n16)) _ STd.out.rd (bind_dry (by rw [← EQ17.out]; exact HD.out)))
    refine call_op 5 (oi := { dst := some 23, op := Op.call { callee := Callee.value (Operand.func 32), args := #[Operand.tmp 22], argTypes := #[56] }, type := 26, pos := "terms.go:23", after := #[{ on := 4, ground := Ground.data }], guard := none }) (d := 23) (R := fun e w' => Ends S d w19 (rec .exp d ((n16))) (RB w19) e w') hF rfl rfl (by decide) (fun a' hA => wanted_none rfl) (fun a' hA => by have e22 := hA.get 22 rfl; have ef : ∀ f, a'.eval (.func f) = .func (.func f) #[] #[] := fun _ => rfl; have ec : ∀ v, a'.eval (.const v) = v := fun _ => rfl; clear hA; generalize a'.eval = ρ at *; simp [go_sem, ef, ec, e22]) HT.out (fun w' => Ends.noOut) ?_ ?_
    · rintro ch w' (⟨_, _, _, _, h2, _⟩ | ⟨ch', ho, h2, hg⟩)
      · cases h2
      · have h2 := Ending.panicked.inj h2
        subst h2
        have hq : bodyPost Tryz.prog Tryz.f47 (fun e w' => Ends S d w tot (RB w) e w') (.panic ch) _ w' := ⟨hF.2.1, Or.inr ⟨ch, by rw [EQ17.out]; exact pan_bind ho, rfl, STd.out.pan hg⟩⟩
        exact hq
    rintro v w20 (⟨x20, n20, v20, hpo, h2, ⟨y20, hv, hyl, hyo, rfl⟩, hr, hg⟩ | ⟨_, _, h2, _⟩) hF2
    rotate_left
    · cases h2
    have h2 := Ending.returned.inj h2
    subst h2
    have e21 := EQ17.out
    rw [show _ = Out.ok _ _ from hpo, bind_ok] at e21
    have EQ21 := Lib.hid e21
    clear e21 EQ17 hS
    have hv2 : v = .agg #[.int .i64 y20.h.k, .int .i64 y20.h.m, .int .i64 y20.h.f, .int .i64 y20.h.t, .slice y20.h.np y20.h.nn y20.h.nc, .slice y20.h.kp y20.h.kn y20.h.kc] := hv
    subst hv2
    clear hv hF
    have hF := hF2
    clear hF2
    have HY20 := Lib.hid (And.intro hyl (hyo.mono (fun q hq => Nat.le_trans STd.out.size hq) _))
    have ST22 := Lib.hid (STd.out.grow hr hg)
    clear hr hg STd hyl hyo hpo HT
    have hS : (fun W : World => W.heap[bx]? = some (.cells #[.pointer (some ⟨S.g, 0, none⟩)] 56 (0, 0)) ∧ W.heap[b15]? = some (.cells #[.int .i64 y12.h.k, .int .i64 y12.h.m, .int .i64 y12.h.f, .int .i64 y12.h.t, .slice y12.h.np y12.h.nn y12.h.nc, .slice y12.h.kp y12.h.kn y12.h.kc] 26 (0, 0)) ∧ W.heap[b8]? = some (.cells #[.int .i64 y5.h.k, .int .i64 y5.h.m, .int .i64 y5.h.f, .int .i64 y5.h.t, .slice y5.h.np y5.h.nn y5.h.nc, .slice y5.h.kp y5.h.kn y5.h.kc] 26 (0, 0))) w20 := ⟨(ST22.out.x (bx, Obj.cells #[.pointer (some ⟨S.g, 0, none⟩)] 56 (0, 0)) (by simp)).1, (ST22.out.b (b15, y12) (by simp)).1, (ST22.out.b (b8, y5) (by simp)).1⟩
    refine ⟨fun _ => hS, ?_⟩
    refine wpTill_alone 6 (by kernel_rfl) ?_
    have hys : ∀ u ∈ [y5, y12, y20], u.Lies w20 ∧ u.On (fun q => (w.alloc boxZ).heap.size ≤ q) := (List.forall_mem_cons.2 ⟨(ST22.out.b (b8, y5) (by simp)).2.2, (List.forall_mem_cons.2 ⟨(ST22.out.b (b15, y12) (by simp)).2.2, (List.forall_mem_cons.2 ⟨HY20.out, (fun _ h => nomatch h)⟩)⟩)⟩)
    have hnew : St S _ d _ (w20.alloc (.cells #[.int .i64 y5.h.k, .int .i64 y5.h.m, .int .i64 y5.h.f, .int .i64 y5.h.t, .slice y5.h.np y5.h.nn y5.h.nc, .slice y5.h.kp y5.h.kn y5.h.kc, .int .i64 y12.h.k, .int .i64 y12.h.m, .int .i64 y12.h.f, .int .i64 y12.h.t, .slice y12.h.np y12.h.nn y12.h.nc, .slice y12.h.kp y12.h.kn y12.h.kc, .int .i64 y20.h.k, .int .i64 y20.h.m, .int .i64 y20.h.f, .int .i64 y20.h.t, .slice y20.h.np y20.h.nn y20.h.nc, .slice y20.h.kp y20.h.kn y20.h.kc] 26)) _ := ST22.out.newK [y5, y12, y20] (by simp) hys
    clear hys
    have HY24 := Lib.hid (And.intro (HY20.out.1.step _ ((Below.refl w20.heap.size w20).alloc (Nat.le_refl _) (.cells #[.int .i64 y5.h.k, .int .i64 y5.h.m, .int .i64 y5.h.f, .int .i64 y5.h.t, .slice y5.h.np y5.h.nn y5.h.nc, .slice y5.h.kp y5.h.kn y5.h.kc, .int .i64 y12.h.k, .int .i64 y12.h.m, .int .i64 y12.h.f, .int .i64 y12.h.t, .slice y12.h.np y12.h.nn y12.h.nc, .slice y12.h.kp y12.h.kn y12.h.kc, .int .i64 y20.h.k, .int .i64 y20.h.m, .int .i64 y20.h.f, .int .i64 y20.h.t, .slice y20.h.np y20.h.nn y20.h.nc, .slice y20.h.kp y20.h.kn y20.h.kc] 26))) HY20.out.2)
    have STn := Lib.hid hnew
    clear hnew hS
    refine make_op 6 (oi := { dst := some 24, op := Op.buildSlice 24 3 #[(0, Operand.tmp 20), (1, Operand.tmp 21), (2, Operand.tmp 23)], type := 24, pos := "terms.go:23", after := #[{ on := 2, ground := Ground.data }, { on := 3, ground := Ground.data }, { on := 5, ground := Ground.data }], guard := none }) (d := 24) (v := .slice (some ⟨w20.heap.size, 0, none⟩) 3 3) (w' := w20.alloc (.cells #[.int .i64 y5.h.k, .int .i64 y5.h.m, .int .i64 y5.h.f, .int .i64 y5.h.t, .slice y5.h.np y5.h.nn y5.h.nc, .slice y5.h.kp y5.h.kn y5.h.kc, .int .i64 y12.h.k, .int .i64 y12.h.m, .int .i64 y12.h.f, .int .i64 y12.h.t, .slice y12.h.np y12.h.nn y12.h.nc, .slice y12.h.kp y12.h.kn y12.h.kc, .int .i64 y20.h.k, .int .i64 y20.h.m, .int .i64 y20.h.f, .int .i64 y20.h.t, .slice y20.h.np y20.h.nn y20.h.nc, .slice y20.h.kp y20.h.kn y20.h.kc] 26)) hF rfl rfl (by decide) (fun a' hA => wanted_none rfl) (fun a' hA => by have e20 := hA.get 20 rfl; have e21 := hA.get 21 rfl; have e23 := hA.get 23 rfl; have ec : ∀ v, a'.eval (.const v) = v := fun _ => rfl; clear hA; generalize a'.eval = ρ at *; simp [go_sem, ec, e20, e21, e23]; try rfl) ?_
    clear hF
    intro hF
    clear ST22
    generalize w20.alloc (.cells #[.int .i64 y5.h.k, .int .i64 y5.h.m, .int .i64 y5.h.f, .int .i64 y5.h.t, .slice y5.h.np y5.h.nn y5.h.nc, .slice y5.h.kp y5.h.kn y5.h.kc, .int .i64 y12.h.k, .int .i64 y12.h.m, .int .i64 y12.h.f, .int .i64 y12.h.t, .slice y12.h.np y12.h.nn y12.h.nc, .slice y12.h.kp y12.h.kn y12.h.kc, .int .i64 y20.h.k, .int .i64 y20.h.m, .int .i64 y20.h.f, .int .i64 y20.h.t, .slice y20.h.np y20.h.nn y20.h.nc, .slice y20.h.kp y20.h.kn y20.h.kc] 26) = w23 at *
    generalize hgz23 : w20.heap.size = g23 at *
    have ST23 := STn
    clear STn
    have hS : (fun W : World => W.heap[bx]? = some (.cells #[.pointer (some ⟨S.g, 0, none⟩)] 56 (0, 0)) ∧ W.heap[b15]? = some (.cells #[.int .i64 y12.h.k, .int .i64 y12.h.m, .int .i64 y12.h.f, .int .i64 y12.h.t, .slice y12.h.np y12.h.nn y12.h.nc, .slice y12.h.kp y12.h.kn y12.h.kc] 26 (0, 0)) ∧ W.heap[b8]? = some (.cells #[.int .i64 y5.h.k, .int .i64 y5.h.m, .int .i64 y5.h.f, .int .i64 y5.h.t, .slice y5.h.np y5.h.nn y5.h.nc, .slice y5.h.kp y5.h.kn y5.h.kc] 26 (0, 0))) w23 := ⟨(ST23.out.x (bx, Obj.cells #[.pointer (some ⟨S.g, 0, none⟩)] 56 (0, 0)) (by simp)).1, (ST23.out.b (b15, y12) (by simp)).1, (ST23.out.b (b8, y5) (by simp)).1⟩
    refine ⟨fun _ => hS, ?_⟩
    refine wpTill_alone 7 (by kernel_rfl) ?_
    have HT := Lib.hid (rbranch_any S (n20) d 31 (n : Nat) none 0 0 (some ⟨g23, 0, none⟩) 3 3 _ ST23.out.rd)
    refine call_op 7 (oi := { dst := some 25, op := Op.call { callee := Callee.value (Operand.func 38), args := #[Operand.tmp 18, Operand.const (Value.int IntKind.i64 31), Operand.tmp 19, Operand.const (Value.slice none 0 0), Operand.tmp 24], argTypes := #[56, 3, 3, 23, 24] }, type := 26, pos := "terms.go:23", after := #[{ on := 0, ground := Ground.data }, { on := 1, ground := Ground.data }, { on := 6, ground := Ground.data }, { on := 5, ground := Ground.chain }], guard := none }) (d := 25) (R := fun e w' => e = .returned (.agg #[.int .i64 31, .int .i64 0, .int .i64 (n : Int), .int .i64 (n20 : Int), .slice none 0 0, .slice (some ⟨g23, 0, none⟩) 3 3]) ∧ Below w23.heap.size w23 w') hF rfl rfl (by decide) (fun a' hA => wanted_none rfl) (fun a' hA => by have e18 := hA.get 18 rfl; have e19 := hA.get 19 rfl; have e24 := hA.get 24 rfl; have ef : ∀ f, a'.eval (.func f) = .func (.func f) #[] #[] := fun _ => rfl; have ec : ∀ v, a'.eval (.const v) = v := fun _ => rfl; clear hA; generalize a'.eval = ρ at *; simp [go_sem, ef, ec, e18, e19, e24]) HT.out (by rintro w' ⟨h, _⟩; cases h) ?_ ?_
    · rintro ch w' ⟨h, _⟩
      cases h
    rintro v w25 ⟨h, hb⟩
    have h := Ending.returned.inj h
    subst h
    intro hF2
    clear hF hS
    have hF := hF2
    clear hF2
    have ST25 := Lib.hid (ST23.out.below hb)
    clear hb ST23 HT
    have hS : (fun W : World => W.heap[bx]? = some (.cells #[.pointer (some ⟨S.g, 0, none⟩)] 56 (0, 0)) ∧ W.heap[b15]? = some (.cells #[.int .i64 y12.h.k, .int .i64 y12.h.m, .int .i64 y12.h.f, .int .i64 y12.h.t, .slice y12.h.np y12.h.nn y12.h.nc, .slice y12.h.kp y12.h.kn y12.h.kc] 26 (0, 0)) ∧ W.heap[b8]? = some (.cells #[.int .i64 y5.h.k, .int .i64 y5.h.m, .int .i64 y5.h.f, .int .i64 y5.h.t, .slice y5.h.np y5.h.nn y5.h.nc, .slice y5.h.kp y5.h.kn y5.h.kc] 26 (0, 0))) w25 := ⟨(ST25.out.x (bx, Obj.cells #[.pointer (some ⟨S.g, 0, none⟩)] 56 (0, 0)) (by simp)).1, (ST25.out.b (b15, y12) (by simp)).1, (ST25.out.b (b8, y5) (by simp)).1⟩
    refine ⟨fun _ => hS, ?_⟩
    refine wpTill_alone 8 (by kernel_rfl) ?_
    have FIN := Lib.hid (ST25.out.fin (k := 31) (m := 0) (f := n) hgl hgwl St.noN (ST25.out.ks (.slice (some ⟨g23, 0, none⟩) 3 3, [y5, y12, y20]) (by simp)) EQ21.out)
    refine store_op 8 (oi := { dst := none, op := Op.store 26 (Operand.tmp 3) (Operand.tmp 25), type := 0, pos := "terms.go:23", after := #[{ on := 7, ground := Ground.data }, { on := 7, ground := Ground.chain }, { on := 0, ground := Ground.phase }, { on := 1, ground := Ground.phase }, { on := 2, ground := Ground.phase }, { on := 3, ground := Ground.phase }, { on := 4, ground := Ground.phase }, { on := 5, ground := Ground.phase }, { on := 6, ground := Ground.phase }, { on := 7, ground := Ground.phase }], guard := none }) (w' := ((((((w25.setCell ⟨w.heap.size, 0, none⟩ (.int .i64 31)).setCell ⟨w.heap.size, 1, none⟩ (.int .i64 0)).setCell ⟨w.heap.size, 2, none⟩ (.int .i64 (n : Int))).setCell ⟨w.heap.size, 3, none⟩ (.int .i64 (n20 : Int))).setCell ⟨w.heap.size, 4, none⟩ (.slice none 0 0)).setCell ⟨w.heap.size, 5, none⟩ (.slice (some ⟨g23, 0, none⟩) 3 3))) hF rfl rfl (fun a' hA => wanted_none rfl) (fun a' hA => ?_) ?_
    · have e1 := hA.get 3 rfl
      have e2 := hA.get 25 rfl
      have c0 := FIN.out.c0
      have c1 := FIN.out.c1
      have c2 := FIN.out.c2
      have c3 := FIN.out.c3
      have c4 := FIN.out.c4
      have c5 := FIN.out.c5
      have f0 := FIN.out.fz 0
      have f1 := FIN.out.fz 1
      have f2 := FIN.out.fz 2
      have f3 := FIN.out.fz 3
      have f4 := FIN.out.fz 4
      have f5 := FIN.out.fz 5
      clear hA hF
      generalize a'.eval = ρ at *
      simp [go_sem, e1, e2, c0, c1, c2, c3, c4, c5, f0, f1, f2, f3, f4, f5]
    refine ⟨fun h => absurd h (by decide), ?_⟩
    refine wpTill_done (by kernel_rfl) ?_ _
    subst ha0
    simp only [Act.put, List.setIfInBounds_toArray, List.set_cons_zero, List.set_cons_succ]
    clear hF hS ST25 EQ21
    go_wp2_with fail
    obtain ⟨_, _, _, _, _, _, _, d0, d1, d2, d3, d4, d5, hfin⟩ := FIN.out
    refine bodyPost_ret (by simp [results, Tryz.results47, go_sem, d0, d1, d2, d3, d4, d5, Result.andThen]; try rfl) rfl ?_
    exact hfin
end Go.Proofs.YtkjgkchdkeggoaaGreatDoor
