/-
  The reader's bareSig.
-/
import Derived.Test.YtkjgkchdkeggoaaGreatDoorDecls
namespace Go.Proofs.YtkjgkchdkeggoaaGreatDoor
open Go.RowKit
set_option maxRecDepth 20000
set_option linter.unusedVariables false
set_option linter.unusedSimpArgs false

set_option maxHeartbeats 4000000 in
theorem bareSig_any (S : Src) (F : Nat) (rec : Nt → Nat → Nat → Out Pb) (d : Nat) (hs : Said S rec d) (hF0 : F ≤ 1000000000) (n : Nat) (w : World) (h : Rd w S n d) (hdry : bareSigO S F rec d n ≠ .dry) :
    Calls Tryz.prog 74 #[.pointer (some ⟨S.g, 0, none⟩)] w fun e w' => Ends S d w (bareSigO S F rec d n) (RB w) e w' := by
  have hgl := h.lt
  have hgwl := h.row
  have hbd := h.bound
  have ST0 := Lib.hid (St.init h [] ((by simp)))
  have HS := Lib.hid hs
  obtain ⟨tot, htot⟩ : ∃ tot, tot = bareSigO S F rec d n := ⟨_, rfl⟩
  have HD : Hid (tot ≠ .dry) := Lib.hid (by rw [htot]; exact hdry)
  rw [← htot]
  unfold bareSigO at htot
  have EQ0 := Lib.hid htot
  clear h hdry htot hs
  cases hsig : S.is n [115, 105, 103]
  · have e2 := EQ0.out
    simp only [hsig, cond_false] at e2
    have EQ2 := Lib.hid e2
    clear e2 EQ0
    go_enter Tryz.func74, Tryz.ntmps74
    have q2 := ST0.out.rd.c2
    have HP := Lib.hid (rpass_any S (n) d ⟨#[115, 105, 103]⟩ _ ST0.out.rd (by simp))
    simp only [hsig, cond_true, cond_false] at HP
    go_wp2_with fail
    refine HP.out.mono ?_
    rintro e w3 ⟨rfl, hr, hg⟩
    have ST4 := Lib.hid (ST0.out.grow hr hg)
    clear hr hg ST0 HP
    clear q2
    have HC := Lib.hid (take1 S ((n)) d 7 (by decide) _ ST4.out.rd)
    go_wp2_with fail
    refine HC.out.mono ?_
    rintro e w5 (⟨x5, n5, v5, hpo, rfl, hv, hr, hg⟩ | ⟨ch, ho, rfl, hg⟩)
    rotate_left
    · exact ⟨rfl, Or.inr ⟨ch, by rw [EQ2.out]; exact pan_bind (ho), rfl, ST4.out.pan hg⟩⟩
    have e6 := EQ2.out
    rw [show _ = Out.ok _ _ from hpo, bind_ok] at e6
    have EQ6 := Lib.hid e6
    clear e6 EQ2
    obtain rfl : v5 = .int .i64 (x5 : Int) := hv
    have ST7 := Lib.hid (ST4.out.grow hr hg)
    clear hr hg ST4 hpo HC
    have ST8 : Hid (St S _ d _ (w5.alloc (.cells #[.int .i64 (x5 : Int)] 3)) _) := Lib.hid (ST7.out.newN [x5] (by simp))
    have HB := Lib.hid (rbranch_any S (n5) d 20 (n : Nat) (some ⟨w5.heap.size, 0, none⟩) 1 1 none 0 0 _ ST8.out.rd)
    go_wp2_with fail
    refine HB.out.mono ?_
    rintro e w9 ⟨rfl, hb⟩
    have ST10 := Lib.hid (ST8.out.below hb)
    clear hb ST8 HB
    have FIN := Lib.hid (ST10.out.fin (k := 20) (m := 0) (f := n) hgl hgwl (ST10.out.ns (.slice (some ⟨w5.heap.size, 0, none⟩) 1 1, [x5]) (by simp)) St.noK EQ6.out)
    clear ST10 EQ6
    have c0 := FIN.out.c0
    have c1 := FIN.out.c1
    have c2 := FIN.out.c2
    have c3 := FIN.out.c3
    have c4 := FIN.out.c4
    have c5 := FIN.out.c5
    have f0 := FIN.out.fz 0
    have f1 := FIN.out.fz 1
    have f2 := FIN.out.fz 2
    have f3 := FIN.out.fz 3
    have f4 := FIN.out.fz 4
    have f5 := FIN.out.fz 5
    go_wp2_with fail
    obtain ⟨_, _, _, _, _, _, _, d0, d1, d2, d3, d4, d5, hfin⟩ := FIN.out
    refine bodyPost_ret (by simp [results, Tryz.results74, go_sem, d0, d1, d2, d3, d4, d5, Result.andThen]; try rfl) rfl ?_
    exact hfin
  · have e2 := EQ0.out
    simp only [hsig, cond_true] at e2
    have EQ2 := Lib.hid e2
    clear e2 EQ0
    go_enter Tryz.func74, Tryz.ntmps74
    have q2 := ST0.out.rd.c2
    have HP := Lib.hid (rpass_any S (n) d ⟨#[115, 105, 103]⟩ _ ST0.out.rd (by simp))
    simp only [hsig, cond_true, cond_false] at HP
    go_wp2_with fail
    refine HP.out.mono ?_
    rintro e w3 ⟨rfl, hr, hg⟩
    have ST4 := Lib.hid (ST0.out.grow hr hg)
    clear hr hg ST0 HP
    clear q2
    have ST1 := Lib.hid (ST4.out.addK (v := .slice none 0 0) (ys := []) St.noK.1 St.noK.2)
    go_wp2_with fail
    go_loopg [4] F (fun gk v5 wr => ∃ (ys : List Br) (i : Nat) (p5 : Option Addr) (cc : Nat), v5 = .slice p5 ys.length cc ∧ ys.length + gk ≤ F ∧ Hid (tot = (specsL S F rec d gk (ys.map Br.pb) i).bind fun l n1 => Out.ok (node 19 n n1 [] l) n1) ∧ Hid (St S (w.alloc boxZ) d ⟨[], [], [], [(.slice p5 ys.length cc, ys)]⟩ wr i))
    case atStart => exact ⟨[], n + 1, _, _, rfl, by simp, EQ2, ST1⟩
    case round =>
      obtain ⟨ys, i, p5, cc, rfl, hal, HL, STr⟩ := hrel
      cases gk with
      | zero => exact absurd HL.out (by intro e; exact HD.out e)
      | succ gk =>
      have hls := HL.out
      simp only [specsL] at hls
      have EQr := Lib.hid hls
      clear hls HL
      cases hend : S.is i [101, 110, 100]
      · have e5 := EQr.out
        simp only [hend, cond_false] at e5
        have EQ5 := Lib.hid e5
        clear e5 EQr
        cases hsemi : S.is i [59]
        · have e6 := EQ5.out
          simp only [hsemi, cond_false] at e6
          have EQ6 := Lib.hid e6
          clear e6 EQ5
          have HP := Lib.hid (rpass_any S (i) d ⟨#[101, 110, 100]⟩ _ STr.out.rd (by simp))
          simp only [hend, cond_true, cond_false] at HP
          go_wp2_with fail
          refine HP.out.mono ?_
          rintro e w7 ⟨rfl, hr, hg⟩
          have ST8 := Lib.hid (STr.out.grow hr hg)
          clear hr hg STr HP
          have HP := Lib.hid (rpass_any S (i) d ⟨#[59]⟩ _ ST8.out.rd (by simp))
          simp only [hsemi, cond_true, cond_false] at HP
          go_wp2_with fail
          refine HP.out.mono ?_
          rintro e w9 ⟨rfl, hr, hg⟩
          have ST10 := Lib.hid (ST8.out.grow hr hg)
          clear hr hg ST8 HP
          have HC := Lib.hid (spec_any S F rec d HS.out hF0 ((i)) _ ST10.out.rd (bind_dry (bind_dry (by rw [← EQ6.out]; exact HD.out))))
          go_wp2_with fail
          refine HC.out.mono ?_
          rintro e w11 (⟨x11, n11, v11, hpo, rfl, ⟨y11, hv, hyl, hyo, rfl⟩, hr, hg⟩ | ⟨ch, ho, rfl, hg⟩)
          rotate_left
          · exact ⟨rfl, Or.inr ⟨ch, by rw [EQ6.out]; exact pan_bind (pan_bind (ho)), rfl, ST10.out.pan hg⟩⟩
          have e12 := EQ6.out
          rw [show _ = Out.ok _ _ from hpo, bind_ok] at e12
          have EQ12 := Lib.hid e12
          clear e12 EQ6
          have HY11 := Lib.hid (And.intro hyl (hyo.mono (fun q hq => Nat.le_trans ST10.out.size hq) _))
          simp only [Hd.val] at hv
          subst hv
          have HZ11 := Lib.hid (And.intro hyl (apart_of (ST10.out.ks (.slice p5 ys.length cc, ys) (by simp)).1 ST10.out.size hyo))
          have ST13 := Lib.hid (ST10.out.grow hr hg)
          clear hr hg ST10 hyl hyo hpo HC
          have HZ : Hid (∀ z ∈ [y11], z.Lies (w11.alloc (BC y11.h)) ∧ z.On (fun q => (w.alloc boxZ).heap.size ≤ q ∧ some q ≠ (.slice p5 ys.length cc : Value).ownBlock)) := Lib.hid (List.forall_mem_cons.2 ⟨And.intro (HZ11.out.1.step _ ((Below.refl w11.heap.size w11).alloc (Nat.le_refl _) (BC y11.h))) HZ11.out.2, (fun _ h => nomatch h)⟩)
          have STa := Lib.hid (ST13.out.below ((Below.refl w11.heap.size w11).alloc (Nat.le_refl _) (BC y11.h)))
          clear ST13 HY11 HZ11
          go_wp2_with (at_builtin; refine wpList_appK rfl _ _ rfl STa (.slice p5 ys.length cc) ys [y11] (by simp) ys.length 1 1 rfl rfl ⟨w11.heap.size, 0, none⟩ rfl rfl news_one HZ.out (by omega) (by omega) ?_)
          intro g14 cp14 w14 ST14
          clear HZ STa
          go_wp2_with fail
          go_roundg gk
          case measure => omega
          case rel => exact ⟨ys ++ [y11], n11, _, _, by rw [List.length_append]; rfl, by simp only [List.length_append, List.length_cons, List.length_nil]; omega, Lib.hid (by have e := EQ12.out; simpa using e), Lib.hid (by have e := ST14.out; rw [show (ys ++ [y11]).length = ys.length + 1 by simp]; exact e)⟩
        · have e6 := EQ5.out
          simp only [hsemi, cond_true] at e6
          have EQ6 := Lib.hid e6
          clear e6 EQ5
          have HP := Lib.hid (rpass_any S (i) d ⟨#[101, 110, 100]⟩ _ STr.out.rd (by simp))
          simp only [hend, cond_true, cond_false] at HP
          go_wp2_with fail
          refine HP.out.mono ?_
          rintro e w7 ⟨rfl, hr, hg⟩
          have ST8 := Lib.hid (STr.out.grow hr hg)
          clear hr hg STr HP
          have HP := Lib.hid (rpass_any S (i) d ⟨#[59]⟩ _ ST8.out.rd (by simp))
          simp only [hsemi, cond_true, cond_false] at HP
          go_wp2_with fail
          refine HP.out.mono ?_
          rintro e w9 ⟨rfl, hr, hg⟩
          have ST10 := Lib.hid (ST8.out.grow hr hg)
          clear hr hg ST8 HP
          go_wp2_with fail
          go_roundg gk
          case measure => omega
          case rel => exact ⟨ys, i + 1, _, _, rfl, by omega, EQ6, ST10⟩
      · have e5 := EQr.out
        simp only [hend, cond_true] at e5
        have EQ5 := Lib.hid e5
        clear e5 EQr
        have e6 := EQ5.out
        simp only [bind_ok] at e6
        have EQ6 := Lib.hid e6
        clear e6 EQ5
        have HP := Lib.hid (rpass_any S (i) d ⟨#[101, 110, 100]⟩ _ STr.out.rd (by simp))
        simp only [hend, cond_true, cond_false] at HP
        go_wp2_with fail
        refine HP.out.mono ?_
        rintro e w7 ⟨rfl, hr, hg⟩
        have ST8 := Lib.hid (STr.out.grow hr hg)
        clear hr hg STr HP
        generalize i + 1 = nn9 at ST8 EQ6
        have HB := Lib.hid (rbranch_any S (nn9) d 19 (n : Nat) none 0 0 p5 ys.length cc _ ST8.out.rd)
        go_wp2_with fail
        refine HB.out.mono ?_
        rintro e w10 ⟨rfl, hb⟩
        have ST11 := Lib.hid (ST8.out.below hb)
        clear hb ST8 HB
        have FIN := Lib.hid (ST11.out.fin (k := 19) (m := 0) (f := n) hgl hgwl St.noN (ST11.out.ks (.slice p5 ys.length cc, ys) (by simp)) EQ6.out)
        clear ST11 EQ6
        have c0 := FIN.out.c0
        have c1 := FIN.out.c1
        have c2 := FIN.out.c2
        have c3 := FIN.out.c3
        have c4 := FIN.out.c4
        have c5 := FIN.out.c5
        have f0 := FIN.out.fz 0
        have f1 := FIN.out.fz 1
        have f2 := FIN.out.fz 2
        have f3 := FIN.out.fz 3
        have f4 := FIN.out.fz 4
        have f5 := FIN.out.fz 5
        go_wp2_with fail
        obtain ⟨_, _, _, _, _, _, _, d0, d1, d2, d3, d4, d5, hfin⟩ := FIN.out
        refine bodyPost_ret (by simp [results, Tryz.results74, go_sem, d0, d1, d2, d3, d4, d5, Result.andThen]; try rfl) rfl ?_
        exact hfin
end Go.Proofs.YtkjgkchdkeggoaaGreatDoor
