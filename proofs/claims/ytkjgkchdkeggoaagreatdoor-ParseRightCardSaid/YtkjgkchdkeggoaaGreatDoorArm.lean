/-
  The reader's arm.
-/
import Derived.Test.YtkjgkchdkeggoaaGreatDoorClause
namespace Go.Proofs.YtkjgkchdkeggoaaGreatDoor
open Go.RowKit
set_option maxRecDepth 20000
set_option linter.unusedVariables false
set_option linter.unusedSimpArgs false

set_option maxHeartbeats 2000000 in
theorem arm_any (S : Src) (rec : Nt → Nat → Nat → Out Pb) (d : Nat) (hs : Said S rec d) (n : Nat) (w : World) (h : Rd w S n d) (hdry : armO S rec d n ≠ .dry) :
    Calls Tryz.prog 50 #[.pointer (some ⟨S.g, 0, none⟩)] w fun e w' => Ends S d w (armO S rec d n) (RB w) e w' := by
  have hgl := h.lt
  have hgwl := h.row
  have hb1 : Below w.heap.size w (w.alloc boxZ) := (Below.refl w.heap.size w).alloc (Nat.le_refl _) _
  have hr1 := h.step hb1
  have q2 := hr1.c2
  unfold armO at hdry ⊢
  have HT := Lib.hid (clause_any S rec d hs 33 n n _ hr1 hdry)
  have hz3 : w.heap.size + 1 ≤ (w.alloc boxZ).heap.size := by simp
  clear hr1 hb1 h hdry
  go_enter Tryz.func50, Tryz.ntmps50
  go_wp2_with fail
  refine HT.out.mono ?_
  rintro e w4 (⟨b, n4, v, hpo, rfl, ⟨y, rfl, hyl, hyo, hyp⟩, hr4, hg4⟩ | ⟨ch, ho, rfl, hg4⟩)
  · obtain ⟨⟨yk, ym, yf, yt, ynp, ynn, ync, yns, ykp, ykn, ykc⟩, yks⟩ := y
    have FIN := Lib.hid (fin_box (o := clauseO S rec d 33 n n) b yk ym yf yt ynp ynn ync yns ykp ykn ykc yks hr4 hg4 hgl hgwl hpo hyl (hyo.mono (fun q hq => by simpa using hq) _) hyp)
    clear hpo hyl hyo hyp hr4 hg4
    simp only [Hd.val, Br.h] at *
    have c0 := FIN.out.c0
    have c1 := FIN.out.c1
    have c2 := FIN.out.c2
    have c3 := FIN.out.c3
    have c4 := FIN.out.c4
    have c5 := FIN.out.c5
    have f0 := FIN.out.fz 0
    have f1 := FIN.out.fz 1
    have f2 := FIN.out.fz 2
    have f3 := FIN.out.fz 3
    have f4 := FIN.out.fz 4
    have f5 := FIN.out.fz 5
    go_wp2_with fail
    obtain ⟨_, _, _, _, _, _, _, d0, d1, d2, d3, d4, d5, hfin⟩ := FIN.out
    refine bodyPost_ret (by simp [results, Tryz.results50, go_sem, d0, d1, d2, d3, d4, d5, Result.andThen]; try rfl) rfl ?_
    exact hfin
  · exact ⟨rfl, Or.inr ⟨ch, ho, rfl, grown_trans (grown_below ((Below.refl _ _).alloc (Nat.le_refl _) _) _) hg4⟩⟩
end Go.Proofs.YtkjgkchdkeggoaaGreatDoor
