/-
  The reader's infix.
-/
import Derived.Test.YtkjgkchdkeggoaaGreatDoorAtom
import Derived.Test.YtkjgkchdkeggoaaGreatDoorCall
import Derived.Test.YtkjgkchdkeggoaaGreatDoorDecls
import Derived.Test.YtkjgkchdkeggoaaGreatDoorKeep
namespace Go.Proofs.YtkjgkchdkeggoaaGreatDoor
open Go.RowKit
set_option maxRecDepth 20000
set_option linter.unusedVariables false
set_option linter.unusedSimpArgs false

set_option maxHeartbeats 1000000 in
theorem infix_any (S : Src) (F : Nat) (rec : Nt → Nat → Nat → Out Pb) (d : Nat) (hs : Said S rec d) (hF0 : F ≤ 1000000000) (n : Nat) (w : World) (h : Rd w S n d) (hdry : infixO S F rec d n ≠ .dry) :
    Calls Tryz.prog 52 #[.pointer (some ⟨S.g, 0, none⟩)] w fun e w' => Ends S d w (infixO S F rec d n) (RB w) e w' := by
  have hgl := h.lt
  have hgwl := h.row
  have hbd := h.bound
  have ST0 := Lib.hid (St.init h [] ((by simp)))
  have HS := Lib.hid hs
  obtain ⟨tot, htot⟩ : ∃ tot, tot = infixO S F rec d n := ⟨_, rfl⟩
  have HD : Hid (tot ≠ .dry) := Lib.hid (by rw [htot]; exact hdry)
  rw [← htot]
  unfold infixO at htot
  have EQ0 := Lib.hid htot
  clear h hdry htot hs
  go_enter Tryz.func52, Tryz.ntmps52
  have q2 := ST0.out.rd.c2
  have HC := Lib.hid (rcall_any S F rec d hF0 (fun k w' hr hnd => atom_any S F rec d HS.out hF0 k w' hr (fun k w' hr hnd => decs_any S F rec d HS.out hF0 0 k w' hr hnd) hnd) ((n)) _ ST0.out.rd (bind_dry (by rw [← EQ0.out]; exact HD.out)))
  go_wp2_with fail
  refine HC.out.mono ?_
  rintro e w2 (⟨x2, n2, v2, hpo, rfl, ⟨y2, hv, hyl, hyo, rfl⟩, hr, hg⟩ | ⟨ch, ho, rfl, hg⟩)
  rotate_left
  · exact ⟨rfl, Or.inr ⟨ch, by rw [EQ0.out]; exact pan_bind (ho), rfl, ST0.out.pan hg⟩⟩
  have e3 := EQ0.out
  rw [show _ = Out.ok _ _ from hpo, bind_ok] at e3
  have EQ3 := Lib.hid e3
  clear e3 EQ0
  have HY2 := Lib.hid (And.intro hyl (hyo.mono (fun q hq => Nat.le_trans ST0.out.size hq) _))
  simp only [Hd.val] at hv
  subst hv
  have ST4 := Lib.hid (ST0.out.grow hr hg)
  clear hr hg ST0 hyl hyo hpo HC
  clear q2
  have hys5 : ∀ u ∈ [y2], u.Lies w2 ∧ u.On (fun q => (w.alloc boxZ).heap.size ≤ q) := (List.forall_mem_cons.2 ⟨HY2.out, (fun _ h => nomatch h)⟩)
  have ST5 : Hid (St S _ d _ (w2.alloc (.cells #[.int .i64 y2.h.k, .int .i64 y2.h.m, .int .i64 y2.h.f, .int .i64 y2.h.t, .slice y2.h.np y2.h.nn y2.h.nc, .slice y2.h.kp y2.h.kn y2.h.kc] 26)) _) := Lib.hid (ST4.out.newK [y2] (by simp) hys5)
  clear hys5
  have ST6 := Lib.hid (ST5.out.addN (v := .slice none 0 0) (l := []) St.noN)
  clear ST5
  have HX0 : Hid (∀ p ∈ [((.slice (some ⟨w2.heap.size, 0, none⟩) 1 1 : Value), ([y2] : List Br))], ∀ y ∈ p.2, y.On fun q => some q ≠ (.slice none 0 0 : Value).ownBlock) := Lib.hid (fun p hp y hy => (Br.On.all y).mono (fun q _ => by simp [Value.ownBlock]) _)
  go_wp2_with fail
  go_loopg [4, 5] F (fun gk v4 v5 wr => ∃ (ys : List Br) (sg : List Nat) (i : Nat) (p4 : Option Addr) (cc4 : Nat) (p5 : Option Addr) (cc5 : Nat), v4 = .slice p4 ys.length cc4 ∧ v5 = .slice p5 sg.length cc5 ∧ ys.length + gk ≤ F + 1 ∧ sg.length + gk ≤ F ∧ Hid (tot = (infixL S F rec d gk sg (ys.map Br.pb) i).bind fun l n2 => Out.ok (oneOr l.2 37 n n2 l.1) n2) ∧ Hid (St S (w.alloc boxZ) d ⟨[], [], [(.slice p5 sg.length cc5, sg)], [(.slice p4 ys.length cc4, ys)]⟩ wr i) ∧ Hid (∀ p ∈ [((.slice p4 ys.length cc4 : Value), (ys : List Br))], ∀ y ∈ p.2, y.On fun q => some q ≠ (.slice p5 sg.length cc5 : Value).ownBlock))
  case atStart => exact ⟨[y2], [], n2, _, _, _, _, rfl, rfl, by simp; omega, by simp, EQ3, ST6, HX0⟩
  case round =>
    obtain ⟨ys, sg, i, p4, cc4, p5, cc5, rfl, rfl, hal, hsl, HL, STr, HXr⟩ := hrel
    cases gk with
    | zero => exact absurd HL.out (by intro e; exact HD.out e)
    | succ gk =>
    have hls := HL.out
    simp only [infixL] at hls
    have EQr := Lib.hid hls
    clear hls HL
    cases h9 : S.kd i == 9
    · have e7 := EQr.out
      simp only [h9, cond_false] at e7
      have EQ7 := Lib.hid e7
      clear e7 EQr
      have e8 := EQ7.out
      simp only [bind_ok] at e8
      have EQ8 := Lib.hid e8
      clear e8 EQ7
      have HP := Lib.hid (rkind_any S (i) d _ STr.out.rd)
      go_wp2_with fail
      refine HP.out.mono ?_
      rintro e w9 ⟨rfl, hb⟩
      have ST10 := Lib.hid (STr.out.below hb)
      clear hb STr HP
      clear HXr hsl
      by_cases h1 : ys.length = 1
      · obtain ⟨y, rfl⟩ := List.length_eq_one_iff.1 h1
        have hks := ST10.out.ks (.slice p4 [y].length cc4, [y]) (by simp)
        simp only at hks
        obtain ⟨gk4, ck, hvk, _, hgk, _, _⟩ := own_pos hks.1 (by simp)
        injection hvk with hk1 hk2 hk3
        subst hk1 hk3
        have cell := fun j u hu => own_cell hks.1 j u hu
        have e0 := cell 0 _ rfl
        have e1 := cell 1 _ rfl
        have e2 := cell 2 _ rfl
        have e3 := cell 3 _ rfl
        have e4 := cell 4 _ rfl
        have e5 := cell 5 _ rfl
        obtain ⟨hyl, hyo⟩ := hks.2 _ (List.mem_singleton.2 rfl)
        have FIN := Lib.hid (ST10.out.finY (o := tot) hgl hgwl hyl (hyo.mono (fun q hq => hq.1) _) (by rw [EQ8.out]; rfl))
        clear cell hyl hyo h1 hks ST10 EQ8
        have c0 := FIN.out.c0
        have c1 := FIN.out.c1
        have c2 := FIN.out.c2
        have c3 := FIN.out.c3
        have c4 := FIN.out.c4
        have c5 := FIN.out.c5
        have f0 := FIN.out.fz 0
        have f1 := FIN.out.fz 1
        have f2 := FIN.out.fz 2
        have f3 := FIN.out.fz 3
        have f4 := FIN.out.fz 4
        have f5 := FIN.out.fz 5
        go_wp2_with fail
        obtain ⟨_, _, _, _, _, _, _, d0, d1, d2, d3, d4, d5, hfin⟩ := FIN.out
        refine bodyPost_ret (by simp [results, Tryz.results52, go_sem, d0, d1, d2, d3, d4, d5, Result.andThen]; try rfl) rfl ?_
        exact hfin
      · have hln : ∀ b, ys.map Br.pb ≠ [b] := fun b e => h1 (by have := congrArg List.length e; simpa using this)
        have hgk : ((ys.length : Int) == 1) = false := by rw [beq_eq_false_iff_ne]; omega
        have h1i : ¬ ((ys.length : Nat) : Int) = 1 := by omega
        have e11 := EQ8.out
        rw [oneOr_ne hln] at e11
        have EQ11 := Lib.hid e11
        clear e11 EQ8
        clear hln
        have HB := Lib.hid (rbranch_any S (i) d 37 (n : Nat) p5 sg.length cc5 p4 ys.length cc4 _ ST10.out.rd)
        go_wp2_with fail
        refine HB.out.mono ?_
        rintro e w12 ⟨rfl, hb⟩
        have ST13 := Lib.hid (ST10.out.below hb)
        clear hb ST10 HB
        have FIN := Lib.hid (ST13.out.fin (k := 37) (m := 0) (f := n) hgl hgwl (ST13.out.ns (.slice p5 sg.length cc5, sg) (by simp)) (ST13.out.ks (.slice p4 ys.length cc4, ys) (by simp)) EQ11.out)
        clear ST13 EQ11
        have c0 := FIN.out.c0
        have c1 := FIN.out.c1
        have c2 := FIN.out.c2
        have c3 := FIN.out.c3
        have c4 := FIN.out.c4
        have c5 := FIN.out.c5
        have f0 := FIN.out.fz 0
        have f1 := FIN.out.fz 1
        have f2 := FIN.out.fz 2
        have f3 := FIN.out.fz 3
        have f4 := FIN.out.fz 4
        have f5 := FIN.out.fz 5
        go_wp2_with fail
        obtain ⟨_, _, _, _, _, _, _, d0, d1, d2, d3, d4, d5, hfin⟩ := FIN.out
        refine bodyPost_ret (by simp [results, Tryz.results52, go_sem, d0, d1, d2, d3, d4, d5, Result.andThen]; try rfl) rfl ?_
        exact hfin
    · have e7 := EQr.out
      simp only [h9, cond_true] at e7
      have EQ7 := Lib.hid e7
      clear e7 EQr
      have HP := Lib.hid (rkind_any S (i) d _ STr.out.rd)
      go_wp2_with fail
      refine HP.out.mono ?_
      rintro e w8 ⟨rfl, hb⟩
      have ST9 := Lib.hid (STr.out.below hb)
      clear hb STr HP
      have HC := Lib.hid (take1 S ((i)) d 9 (by decide) _ ST9.out.rd)
      go_wp2_with fail
      refine HC.out.mono ?_
      rintro e w10 (⟨x10, n10, v10, hpo, rfl, hv, hr, hg⟩ | ⟨ch, ho, rfl, hg⟩)
      rotate_left
      · exact ⟨rfl, Or.inr ⟨ch, by rw [EQ7.out]; exact pan_bind (pan_bind (ho)), rfl, ST9.out.pan hg⟩⟩
      have e11 := EQ7.out
      rw [show _ = Out.ok _ _ from hpo, bind_ok] at e11
      have EQ11 := Lib.hid e11
      clear e11 EQ7
      obtain rfl : v10 = .int .i64 (x10 : Int) := hv
      have ST12 := Lib.hid (ST9.out.grow hr hg)
      clear hr hg ST9 hpo HC
      have HNW := Lib.hid (World.news_of_block (heap_alloc_new w10 (.cells #[.int .i64 (x10 : Int)] 3)))
      have STa := Lib.hid (ST12.out.below ((Below.refl w10.heap.size w10).alloc (Nat.le_refl _) (.cells #[.int .i64 (x10 : Int)] 3)))
      clear ST12
      go_wp2_with (at_builtin; refine wpList_appN rfl _ _ rfl STa (.slice p5 sg.length cc5) sg x10 (by simp) sg.length 1 rfl rfl ⟨w10.heap.size, 0, none⟩ rfl HNW.out HXr (by omega) ?_)
      intro g7 cp7 w7q STn HXn
      clear HNW STa HXr
      have HC := Lib.hid (rcall_any S F rec d hF0 (fun k w' hr hnd => atom_any S F rec d HS.out hF0 k w' hr (fun k w' hr hnd => decs_any S F rec d HS.out hF0 0 k w' hr hnd) hnd) ((n10)) _ STn.out.rd (bind_dry (bind_dry (by rw [← EQ11.out]; exact HD.out))))
      go_wp2_with fail
      refine HC.out.mono ?_
      rintro e w13 (⟨x13, n13, v13, hpo, rfl, ⟨y13, hv, hyl, hyo, rfl⟩, hr, hg⟩ | ⟨ch, ho, rfl, hg⟩)
      rotate_left
      · exact ⟨rfl, Or.inr ⟨ch, by rw [EQ11.out]; exact pan_bind (pan_bind (ho)), rfl, STn.out.pan hg⟩⟩
      have e14 := EQ11.out
      rw [show _ = Out.ok _ _ from hpo, bind_ok] at e14
      have EQ14 := Lib.hid e14
      clear e14 EQ11
      have HY13 := Lib.hid (And.intro hyl (hyo.mono (fun q hq => Nat.le_trans STn.out.size hq) _))
      simp only [Hd.val] at hv
      subst hv
      have HZ13 := Lib.hid (And.intro hyl (apart_of (STn.out.ks (.slice p4 ys.length cc4, ys) (by simp)).1 STn.out.size hyo))
      have HV13 := Lib.hid (apart_of (STn.out.ns (.slice (some ⟨g7, 0, none⟩) (sg.length + 1) cp7, (sg ++ [x10])) (by simp)) STn.out.size hyo)
      have ST15 := Lib.hid (STn.out.grow hr hg)
      clear hr hg STn hyl hyo hpo HC
      have HZ : Hid (∀ z ∈ [y13], z.Lies (w13.alloc (BC y13.h)) ∧ z.On (fun q => (w.alloc boxZ).heap.size ≤ q ∧ some q ≠ (.slice p4 ys.length cc4 : Value).ownBlock)) := Lib.hid (List.forall_mem_cons.2 ⟨And.intro (HZ13.out.1.step _ ((Below.refl w13.heap.size w13).alloc (Nat.le_refl _) (BC y13.h))) HZ13.out.2, (fun _ h => nomatch h)⟩)
      have STa := Lib.hid (ST15.out.below ((Below.refl w13.heap.size w13).alloc (Nat.le_refl _) (BC y13.h)))
      clear ST15 HY13 HZ13
      go_wp2_with (at_builtin; refine wpList_appK rfl _ _ rfl STa (.slice p4 ys.length cc4) ys [y13] (by simp) ys.length 1 1 rfl rfl ⟨w13.heap.size, 0, none⟩ rfl rfl news_one HZ.out (by omega) (by omega) ?_)
      intro g16 cp16 w16 ST16
      clear HZ STa
      go_wp2_with fail
      go_roundg gk
      case measure => omega
      case rel => exact ⟨ys ++ [y13], sg ++ [x10], n13, _, _, _, _, by rw [List.length_append]; rfl, by rw [List.length_append]; rfl, by simp only [List.length_append, List.length_cons, List.length_nil]; omega, by simp only [List.length_append, List.length_cons, List.length_nil]; omega, Lib.hid (by have e := EQ14.out; simpa using e), Lib.hid (by have e := ST16.out; rw [show (ys ++ [y13]).length = ys.length + 1 by simp, show (sg ++ [x10]).length = sg.length + 1 by simp]; exact e), Lib.hid (fun p hp z hz => by
        obtain rfl := List.mem_singleton.1 hp
        rw [show (sg ++ [x10]).length = sg.length + 1 by simp]
        rcases List.mem_append.1 hz with hz | hz
        · first | exact HXn.out _ (List.mem_singleton.2 rfl) z hz | exact HXn.out z hz
        · obtain rfl := List.mem_singleton.1 hz
          exact HV13.out.mono (fun q hq => hq.2) _)⟩
end Go.Proofs.YtkjgkchdkeggoaaGreatDoor
