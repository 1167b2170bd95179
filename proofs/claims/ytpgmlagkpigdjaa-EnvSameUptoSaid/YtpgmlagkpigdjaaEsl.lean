/-
  The law EnvSame, walked.
-/
import Derived.Test.YtpgmlagkpigdjaaSam
import Derived.Test.YtpgmlagkpigdjaaSme
import Derived.Test.YtpgmlagkpigdjaaMad
import Derived.Test.YtpgmlagkpigdjaaEow
namespace Go.Proofs.Ytpgmlagkpigdjaa
open Go.RowKit
set_option maxRecDepth 20000
set_option linter.unusedVariables false
set_option linter.unusedSimpArgs false

theorem size60 (w : World) (p : Option Addr) (n c : Nat) (l : List Bn) (hb : Bl w p n c l) (hs : sizes l ≤ 2000000) (W : World) (hW : Below w.heap.size w W) :
    Calls Try.prog 15 #[.slice p n c, .int .i64 60] W fun e w' => e = .returned (.int .i64 (rsL 60 0 l)) ∧ Below w.heap.size w w' := by
  refine (size15 (sizes l) l (Nat.le_refl _) hs 60 W p n c (by omega) (by omega) (hb.step hW)).mono ?_
  rintro e w' ⟨h1, d, h2⟩
  exact ⟨h1, by rw [h2]; exact below_drewN hW d⟩
theorem made_is (w : World) (q : Option Addr) (n c : Nat) (l : List Bn) (hb : Bl w q n c l) (hs : sizes l ≤ 60) (W : World) (hW : Below w.heap.size w W) :
    Calls Try.prog 8 #[.pointer none, .slice q n c] W fun e w' => ∃ p', e = .returned (.pointer p') ∧ EnvIs w' p' l ∧ Below w.heap.size w w' ∧ Below W.heap.size W w' := by
  refine (made8 (sizes l) l (Nat.le_refl _) (by omega) W none [] q n c (hb.step hW) (EnvAt.nil _) (by simp)).mono ?_
  rintro e w' ⟨p', new, rfl, h1, h2, h3, h4⟩
  rw [List.append_nil] at h1
  exact ⟨p', rfl, ⟨new, h1, h2⟩, hW.trans (h4.mono hW.size), h4⟩
theorem det16 (wE : World) (pa pb : Option Addr) (x y : List Bn) (z : Bool) (ha : EnvIs wE pa x) (hb : EnvIs wE pb y) (hx : sizes x ≤ 60) (hy : sizes y ≤ 60) (hz : z = true ↔ SM x y) (W : World) (hW : Below wE.heap.size wE W) :
    Calls Try.prog 16 #[.pointer pa, .pointer pb] W fun e w' => e = .returned (.bool z) ∧ Below wE.heap.size wE w' := by
  refine (same16 W pa pb x y (ha.step hW) (hb.step hW) (by omega) (by omega)).mono ?_
  rintro e w' ⟨b, rfl, hb', hw⟩
  have : b = z := by
    have : b = true ↔ z = true := by rw [hb', hz]
    cases b <;> cases z <;> simp at this ⊢
  exact ⟨by rw [this], hW.trans (hw.mono hW.size)⟩
theorem det17 (w wE : World) (p q : Option Addr) (n c m d : Nat) (x y : List Bn) (z : Bool) (ha : Bl w p n c x) (hb : Bl w q m d y) (hwe : Below w.heap.size w wE) (hx : sizes x ≤ 60) (hy : sizes y ≤ 60) (hz : z = true ↔ SM x y) (W : World) (hW : Below wE.heap.size wE W) :
    Calls Try.prog 17 #[.slice p n c, .slice q m d] W fun e w' => e = .returned (.bool z) ∧ Below wE.heap.size wE w' := by
  have hwW : Below w.heap.size w W := hwe.trans (hW.mono hwe.size)
  refine (same17 (sizes x) x (Nat.le_refl _) (by omega) y W p q n c m d (by omega) (ha.step hwW) (hb.step hwW)).mono ?_
  rintro e w' ⟨b, rfl, hb', hw⟩
  have : b = z := by
    have : b = true ↔ z = true := by rw [hb', hz]
    cases b <;> cases z <;> simp at this ⊢
  exact ⟨by rw [this], hW.trans (hw.mono hW.size)⟩
set_option maxHeartbeats 16000000 in
theorem envSame_any (p : Option Addr) (n c : Nat) (x : List Bn) (q : Option Addr) (m d : Nat) (y : List Bn) (r : Option Addr) (k f : Nat) (z : List Bn) (w : World) (hx : Bl w p n c x) (hy : Bl w q m d y) (hz : Bl w r k f z) (sx : sizes x ≤ 2000000) (sy : sizes y ≤ 2000000) (sz : sizes z ≤ 2000000) :
    Calls Try.prog 4 #[.slice p n c, .slice q m d, .slice r k f] w (TruePost w) := by
  have HAL : Hid (∀ W, Below w.heap.size w W → Calls Try.prog 7 #[] W fun e w' => e = .returned (.bool true) ∧ Below w.heap.size w w') := Lib.hid fun W hW => by
    refine (alive_any W).mono ?_
    rintro e w' ⟨h1, h2⟩
    exact ⟨h1, hW.trans (h2.mono hW.size)⟩
  have HZX := Lib.hid (size60 w p n c x hx sx)
  have HZY := Lib.hid (size60 w q m d y hy sy)
  have HZZ := Lib.hid (size60 w r k f z hz sz)
  have HFX : Hid (rsL 60 0 x ≤ 60 → sizes x ≤ 60) := Lib.hid fun h => by have := (rsL_bd x 60 0 (by omega)).2.2 h; omega
  have HFY : Hid (rsL 60 0 y ≤ 60 → sizes y ≤ 60) := Lib.hid fun h => by have := (rsL_bd y 60 0 (by omega)).2.2 h; omega
  have HFZ : Hid (rsL 60 0 z ≤ 60 → sizes z ≤ 60) := Lib.hid fun h => by have := (rsL_bd z 60 0 (by omega)).2.2 h; omega
  have HX := Lib.hid hx
  have HY := Lib.hid hy
  have HZ := Lib.hid hz
  have HB0 := Lib.hid (Below.refl w.heap.size w)
  clear hx hy hz sx sy sz
  generalize rsL 60 0 x = a at *
  generalize rsL 60 0 y = b at *
  generalize rsL 60 0 z = g at *
  by_cases h1 : 60 < a
  · go_enter Try.func4, Try.ntmps4
    go_wp2_with fail
    refine (HZX.out _ HB0.out).mono ?_
    rintro e w1 ⟨rfl, hb1⟩
    have HB1 := Lib.hid hb1
    clear hb1
    go_wp2_with fail
    refine (HAL.out _ HB1.out).mono ?_
    rintro e wz ⟨rfl, hbz⟩
    have HBz := Lib.hid hbz
    clear hbz
    go_wp2_with fail
    go_ret
    exact ⟨rfl, HBz.out⟩
  · by_cases h2 : 60 < b
    · go_enter Try.func4, Try.ntmps4
      go_wp2_with fail
      refine (HZX.out _ HB0.out).mono ?_
      rintro e w1 ⟨rfl, hb1⟩
      have HB1 := Lib.hid hb1
      clear hb1
      go_wp2_with fail
      refine (HZY.out _ HB1.out).mono ?_
      rintro e w2 ⟨rfl, hb2⟩
      have HB2 := Lib.hid hb2
      clear hb2
      go_wp2_with fail
      refine (HAL.out _ HB2.out).mono ?_
      rintro e wz ⟨rfl, hbz⟩
      have HBz := Lib.hid hbz
      clear hbz
      go_wp2_with fail
      go_ret
      exact ⟨rfl, HBz.out⟩
    · by_cases h3 : 60 < g
      · go_enter Try.func4, Try.ntmps4
        go_wp2_with fail
        refine (HZX.out _ HB0.out).mono ?_
        rintro e w1 ⟨rfl, hb1⟩
        have HB1 := Lib.hid hb1
        clear hb1
        go_wp2_with fail
        refine (HZY.out _ HB1.out).mono ?_
        rintro e w2 ⟨rfl, hb2⟩
        have HB2 := Lib.hid hb2
        clear hb2
        go_wp2_with fail
        refine (HZZ.out _ HB2.out).mono ?_
        rintro e w3 ⟨rfl, hb3⟩
        have HB3 := Lib.hid hb3
        clear hb3
        go_wp2_with fail
        refine (HAL.out _ HB3.out).mono ?_
        rintro e wz ⟨rfl, hbz⟩
        have HBz := Lib.hid hbz
        clear hbz
        go_wp2_with fail
        go_ret
        exact ⟨rfl, HBz.out⟩
      · have HSX := Lib.hid (HFX.out (by omega))
        have HSY := Lib.hid (HFY.out (by omega))
        have HSZ := Lib.hid (HFZ.out (by omega))
        go_enter Try.func4, Try.ntmps4
        go_wp2_with fail
        refine (HZX.out _ HB0.out).mono ?_
        rintro e w1 ⟨rfl, hb1⟩
        have HB1 := Lib.hid hb1
        clear hb1
        go_wp2_with fail
        refine (HZY.out _ HB1.out).mono ?_
        rintro e w2 ⟨rfl, hb2⟩
        have HB2 := Lib.hid hb2
        clear hb2
        go_wp2_with fail
        refine (HZZ.out _ HB2.out).mono ?_
        rintro e w3 ⟨rfl, hb3⟩
        have HB3 := Lib.hid hb3
        clear hb3
        go_wp2_with fail
        refine (made_is w _ _ _ _ HX.out HSX.out _ HB3.out).mono ?_
        rintro e w4 ⟨ex, rfl, he, hb4, hg4⟩
        have HEX := Lib.hid he
        have HB4 := Lib.hid hb4
        clear he hb4 hg4
        go_wp2_with fail
        refine (made_is w _ _ _ _ HY.out HSY.out _ HB4.out).mono ?_
        rintro e w5 ⟨ey, rfl, he, hb5, hg5⟩
        have HEY := Lib.hid he
        have HB5 := Lib.hid hb5
        have HEX5 := Lib.hid (HEX.out.step hg5)
        clear HEX
        have HEX := HEX5
        clear HEX5
        clear he hb5 hg5
        go_wp2_with fail
        refine (made_is w _ _ _ _ HZ.out HSZ.out _ HB5.out).mono ?_
        rintro e w6 ⟨ez, rfl, he, hb6, hg6⟩
        have HEZ := Lib.hid he
        have HB6 := Lib.hid hb6
        have HEX6 := Lib.hid (HEX.out.step hg6)
        clear HEX
        have HEX := HEX6
        clear HEX6
        have HEY6 := Lib.hid (HEY.out.step hg6)
        clear HEY
        have HEY := HEY6
        clear HEY6
        clear he hb6 hg6
        have HBE := Lib.hid (Below.refl w6.heap.size w6)
        have HALE : Hid (∀ W, Below w6.heap.size w6 W → Calls Try.prog 7 #[] W fun e w' => e = .returned (.bool true) ∧ Below w.heap.size w w') := Lib.hid fun W hW => HAL.out W (HB6.out.trans (hW.mono HB6.out.size))
        have Cxx := Lib.hid (det16 w6 ex ex x x true HEX.out HEX.out HSX.out HSX.out ⟨fun _ => SM.refl x, fun _ => rfl⟩)
        by_cases e1 : SM x y
        · by_cases e2 : SM y z
          · have Cyz := Lib.hid (det16 w6 ey ez y z true HEY.out HEZ.out HSY.out HSZ.out ⟨fun _ => e2, fun _ => rfl⟩)
            have Cxz := Lib.hid (det16 w6 ex ez x z true HEX.out HEZ.out HSX.out HSZ.out ⟨fun _ => SM.trans e1 e2, fun _ => rfl⟩)
            have Cxy := Lib.hid (det16 w6 ex ey x y true HEX.out HEY.out HSX.out HSY.out ⟨fun _ => e1, fun _ => rfl⟩)
            have Cyx := Lib.hid (det16 w6 ey ex y x true HEY.out HEX.out HSY.out HSX.out ⟨fun _ => SM.symm e1, fun _ => rfl⟩)
            have Dxy := Lib.hid (det17 w w6 p q n c m d x y true HX.out HY.out HB6.out HSX.out HSY.out ⟨fun _ => e1, fun _ => rfl⟩)
            go_wp2_with fail
            refine (Cxy.out _ HBE.out).mono ?_
            rintro e wa ⟨rfl, hba⟩
            have HBa := Lib.hid hba
            clear hba
            go_wp2_with fail
            refine (Dxy.out _ HBa.out).mono ?_
            rintro e wb ⟨rfl, hbb⟩
            have HBb := Lib.hid hbb
            clear hbb
            go_wp2_with fail
            refine (Cxy.out _ HBb.out).mono ?_
            rintro e wc ⟨rfl, hbc⟩
            have HBc := Lib.hid hbc
            clear hbc
            go_wp2_with fail
            refine (Cyx.out _ HBc.out).mono ?_
            rintro e wd ⟨rfl, hbd⟩
            have HBd := Lib.hid hbd
            clear hbd
            go_wp2_with fail
            refine (Cxx.out _ HBd.out).mono ?_
            rintro e we ⟨rfl, hbe⟩
            have HBe := Lib.hid hbe
            clear hbe
            go_wp2_with fail
            refine (Cxy.out _ HBe.out).mono ?_
            rintro e wf ⟨rfl, hbf⟩
            have HBf := Lib.hid hbf
            clear hbf
            go_wp2_with fail
            refine (Cyz.out _ HBf.out).mono ?_
            rintro e wg ⟨rfl, hbg⟩
            have HBg := Lib.hid hbg
            clear hbg
            go_wp2_with fail
            refine (Cxz.out _ HBg.out).mono ?_
            rintro e wh ⟨rfl, hbh⟩
            have HBh := Lib.hid hbh
            clear hbh
            go_wp2_with fail
            refine (HALE.out _ HBh.out).mono ?_
            rintro e wz ⟨rfl, hbz⟩
            have HBz := Lib.hid hbz
            clear hbz
            go_wp2_with fail
            go_ret
            exact ⟨rfl, HBz.out⟩
          · have Cyz := Lib.hid (det16 w6 ey ez y z false HEY.out HEZ.out HSY.out HSZ.out ⟨fun h => by (cases h), fun h => absurd h e2⟩)
            have Cxy := Lib.hid (det16 w6 ex ey x y true HEX.out HEY.out HSX.out HSY.out ⟨fun _ => e1, fun _ => rfl⟩)
            have Cyx := Lib.hid (det16 w6 ey ex y x true HEY.out HEX.out HSY.out HSX.out ⟨fun _ => SM.symm e1, fun _ => rfl⟩)
            have Dxy := Lib.hid (det17 w w6 p q n c m d x y true HX.out HY.out HB6.out HSX.out HSY.out ⟨fun _ => e1, fun _ => rfl⟩)
            go_wp2_with fail
            refine (Cxy.out _ HBE.out).mono ?_
            rintro e wa ⟨rfl, hba⟩
            have HBa := Lib.hid hba
            clear hba
            go_wp2_with fail
            refine (Dxy.out _ HBa.out).mono ?_
            rintro e wb ⟨rfl, hbb⟩
            have HBb := Lib.hid hbb
            clear hbb
            go_wp2_with fail
            refine (Cxy.out _ HBb.out).mono ?_
            rintro e wc ⟨rfl, hbc⟩
            have HBc := Lib.hid hbc
            clear hbc
            go_wp2_with fail
            refine (Cyx.out _ HBc.out).mono ?_
            rintro e wd ⟨rfl, hbd⟩
            have HBd := Lib.hid hbd
            clear hbd
            go_wp2_with fail
            refine (Cxx.out _ HBd.out).mono ?_
            rintro e we ⟨rfl, hbe⟩
            have HBe := Lib.hid hbe
            clear hbe
            go_wp2_with fail
            refine (Cxy.out _ HBe.out).mono ?_
            rintro e wf ⟨rfl, hbf⟩
            have HBf := Lib.hid hbf
            clear hbf
            go_wp2_with fail
            refine (Cyz.out _ HBf.out).mono ?_
            rintro e wg ⟨rfl, hbg⟩
            have HBg := Lib.hid hbg
            clear hbg
            go_wp2_with fail
            refine (HALE.out _ HBg.out).mono ?_
            rintro e wz ⟨rfl, hbz⟩
            have HBz := Lib.hid hbz
            clear hbz
            go_wp2_with fail
            go_ret
            exact ⟨rfl, HBz.out⟩
        · skip
          have Cxy := Lib.hid (det16 w6 ex ey x y false HEX.out HEY.out HSX.out HSY.out ⟨fun h => by (cases h), fun h => absurd h e1⟩)
          have Cyx := Lib.hid (det16 w6 ey ex y x false HEY.out HEX.out HSY.out HSX.out ⟨fun h => by (cases h), fun h => absurd (SM.symm h) e1⟩)
          have Dxy := Lib.hid (det17 w w6 p q n c m d x y false HX.out HY.out HB6.out HSX.out HSY.out ⟨fun h => by (cases h), fun h => absurd h e1⟩)
          go_wp2_with fail
          refine (Cxy.out _ HBE.out).mono ?_
          rintro e wa ⟨rfl, hba⟩
          have HBa := Lib.hid hba
          clear hba
          go_wp2_with fail
          refine (Dxy.out _ HBa.out).mono ?_
          rintro e wb ⟨rfl, hbb⟩
          have HBb := Lib.hid hbb
          clear hbb
          go_wp2_with fail
          refine (Cxy.out _ HBb.out).mono ?_
          rintro e wc ⟨rfl, hbc⟩
          have HBc := Lib.hid hbc
          clear hbc
          go_wp2_with fail
          refine (Cyx.out _ HBc.out).mono ?_
          rintro e wd ⟨rfl, hbd⟩
          have HBd := Lib.hid hbd
          clear hbd
          go_wp2_with fail
          refine (Cxx.out _ HBd.out).mono ?_
          rintro e we ⟨rfl, hbe⟩
          have HBe := Lib.hid hbe
          clear hbe
          go_wp2_with fail
          refine (Cxy.out _ HBe.out).mono ?_
          rintro e wf ⟨rfl, hbf⟩
          have HBf := Lib.hid hbf
          clear hbf
          go_wp2_with fail
          refine (HALE.out _ HBf.out).mono ?_
          rintro e wz ⟨rfl, hbz⟩
          have HBz := Lib.hid hbz
          clear hbz
          go_wp2_with fail
          go_ret
          exact ⟨rfl, HBz.out⟩
end Go.Proofs.Ytpgmlagkpigdjaa
