/-
  The law MatchOn, walked.
-/
import Derived.Test.YtagkpcnedccaiaaGF
import Derived.Test.YtagkpcnedccaiaaGH
namespace Go.Proofs.Ytagkpcnedccaiaa
open Go.RowKit
set_option maxRecDepth 20000
set_option linter.unusedVariables false
set_option linter.unusedSimpArgs false

def TruePost (w : World) (e : Ending) (w' : World) : Prop := e = .returned (.bool true) ∧ Below w.heap.size w w'
set_option maxHeartbeats 4000000 in
theorem few_any (w : World) (p : Option Addr) (n c : Nat) (l : List Bn) (hb : Bl w p n c l) (hs : sizes l ≤ 2000000) (W : World) (hW : Below w.heap.size w W) :
  Calls Try.prog 7 #[.slice p n c] W fun e w' => e = .returned (.bool (decide (rsL 100 0 l ≤ 100))) ∧ Below w.heap.size w w' := by
 have HS : Hid (Calls Try.prog 22 #[.slice p n c, .int .i64 100] W fun e w' => e = .returned (.int .i64 (rsL 100 0 l)) ∧ Below w.heap.size w w') := Lib.hid (by
  refine (size15 (sizes l) l (Nat.le_refl _) hs 100 W p n c (by omega) (by omega) (hb.step hW)).mono ?_
  rintro e w' ⟨h1, d, h2⟩
  exact ⟨h1, by rw [h2]; exact below_drewN hW d⟩)
 clear hb hs hW
 generalize rsL 100 0 l = a at *
 go_enter Try.func7, Try.ntmps7
 go_wp2_with fail
 refine HS.out.mono ?_
 rintro e w1 ⟨rfl, hb1⟩
 have HB1 := Lib.hid hb1
 clear hb1
 go_wp2_with fail
 go_ret
 exact ⟨rfl, HB1.out⟩
theorem made_is (w : World) (q : Option Addr) (n c : Nat) (l : List Bn) (hb : Bl w q n c l) (hs : sizes l ≤ 100) (W : World) (hW : Below w.heap.size w W) :
  Calls Try.prog 10 #[.pointer none, .slice q n c] W fun e w' => ∃ a : Option Nat, e = .returned (.pointer (a.bind at0)) ∧ EnvIs w' (a.bind at0) l ∧ Below w.heap.size w w' ∧ Below W.heap.size W w' := by
 refine (made8 (sizes l) l (Nat.le_refl _) (by omega) W none [] q n c (hb.step hW) (EnvAt.nil _) (by simp)).mono ?_
 rintro e w' ⟨p', new, rfl, h1, h2, h3, h4⟩
 rw [List.append_nil] at h1
 have he : EnvIs w' p' l := ⟨new, h1, h2⟩
 refine ⟨nO p', by rw [← he.nO.1], by rw [← he.nO.1]; exact he, hW.trans (h4.mono hW.size), h4⟩
theorem mat_det (wE : World) (a d : Option Nat) (x y : List Bn) (ha : EnvIs wE (a.bind at0) x) (hd : EnvIs wE (d.bind at0) y) (hx : sizes x ≤ 100) (z : Bool) (hz : isOk (mt x y) = z) (W : World) (hW : Below wE.heap.size wE W) :
  Calls Try.prog 9 #[.pointer (a.bind at0), .pointer (d.bind at0)] W fun e w' => ∃ (q : Option Addr) (n c : Nat) (ki : Int) (ks : ByteArray), e = .returned (.tuple #[.slice q n c, .agg #[.int .i64 ki, .string ks], .bool z]) ∧ n = (okL (mt x y)).length ∧ Below wE.heap.size wE w' := by
 refine (match_any W a d x y (ha.step hW) (hd.step hW) (by omega)).mono ?_
 rintro e w' ⟨v, k, rfl, ho, hb, _, _⟩
 obtain ⟨q, c, rfl, _⟩ := own_slice ho
 exact ⟨q, _, c, k.1, k.2, by rw [hz], rfl, hW.trans (hb.mono hW.size)⟩
set_option maxHeartbeats 16000000 in
theorem matchOn_any (p : Option Addr) (n c : Nat) (x : List Bn) (q : Option Addr) (m d : Nat) (y : List Bn) (r : Option Addr) (k f : Nat) (z : List Bn) (w : World) (hx : Bl w p n c x) (hy : Bl w q m d y) (hz : Bl w r k f z) (sx : sizes x ≤ 2000000) (sy : sizes y ≤ 2000000) (sz : sizes z ≤ 2000000) :
  Calls Try.prog 4 #[.slice p n c, .slice q m d, .slice r k f] w (TruePost w) := by
 have HAL : Hid (∀ W, Below w.heap.size w W → Calls Try.prog 8 #[] W fun e w' => e = .returned (.bool true) ∧ Below w.heap.size w w') := Lib.hid fun W hW => by
  refine (alive_any W).mono ?_
  rintro e w' ⟨h1, h2⟩
  exact ⟨h1, hW.trans (h2.mono hW.size)⟩
 have HFX := Lib.hid (few_any w p n c x hx sx)
 have HFY := Lib.hid (few_any w q m d y hy sy)
 have HFZ := Lib.hid (few_any w r k f z hz sz)
 have HSX : Hid (rsL 100 0 x ≤ 100 → sizes x ≤ 100) := Lib.hid fun h => by have := (rsL_bd x 100 0 (by omega)).2.2 h; omega
 have HSY : Hid (rsL 100 0 y ≤ 100 → sizes y ≤ 100) := Lib.hid fun h => by have := (rsL_bd y 100 0 (by omega)).2.2 h; omega
 have HSZ : Hid (rsL 100 0 z ≤ 100 → sizes z ≤ 100) := Lib.hid fun h => by have := (rsL_bd z 100 0 (by omega)).2.2 h; omega
 have HX := Lib.hid hx
 have HY := Lib.hid hy
 have HZ := Lib.hid hz
 have HB0 := Lib.hid (Below.refl w.heap.size w)
 clear hx hy hz sx sy sz
 generalize hfx : decide (rsL 100 0 x ≤ 100) = fx at *
 generalize hfy : decide (rsL 100 0 y ≤ 100) = fy at *
 generalize hfz : decide (rsL 100 0 z ≤ 100) = fz at *
 cases fx with
 | false =>
  clear hfx hfy hfz
  go_enter Try.func4, Try.ntmps4
  go_wp2_with fail
  refine (HFX.out _ HB0.out).mono ?_
  rintro e w1 ⟨rfl, hb1⟩
  have HB1 := Lib.hid hb1
  clear hb1
  go_wp2_with fail
  refine (HAL.out _ HB1.out).mono ?_
  rintro e wz ⟨rfl, hbz⟩
  have HBz := Lib.hid hbz
  clear hbz
  go_wp2_with fail
  go_ret
  exact ⟨rfl, HBz.out⟩
 | true =>
  cases fy with
  | false =>
   clear hfx hfy hfz
   go_enter Try.func4, Try.ntmps4
   go_wp2_with fail
   refine (HFX.out _ HB0.out).mono ?_
   rintro e w1 ⟨rfl, hb1⟩
   have HB1 := Lib.hid hb1
   clear hb1
   go_wp2_with fail
   refine (HFY.out _ HB1.out).mono ?_
   rintro e w2 ⟨rfl, hb2⟩
   have HB2 := Lib.hid hb2
   clear hb2
   go_wp2_with fail
   refine (HAL.out _ HB2.out).mono ?_
   rintro e wz ⟨rfl, hbz⟩
   have HBz := Lib.hid hbz
   clear hbz
   go_wp2_with fail
   go_ret
   exact ⟨rfl, HBz.out⟩
  | true =>
   cases fz with
   | false =>
    clear hfx hfy hfz
    go_enter Try.func4, Try.ntmps4
    go_wp2_with fail
    refine (HFX.out _ HB0.out).mono ?_
    rintro e w1 ⟨rfl, hb1⟩
    have HB1 := Lib.hid hb1
    clear hb1
    go_wp2_with fail
    refine (HFY.out _ HB1.out).mono ?_
    rintro e w2 ⟨rfl, hb2⟩
    have HB2 := Lib.hid hb2
    clear hb2
    go_wp2_with fail
    refine (HFZ.out _ HB2.out).mono ?_
    rintro e w3 ⟨rfl, hb3⟩
    have HB3 := Lib.hid hb3
    clear hb3
    go_wp2_with fail
    refine (HAL.out _ HB3.out).mono ?_
    rintro e wz ⟨rfl, hbz⟩
    have HBz := Lib.hid hbz
    clear hbz
    go_wp2_with fail
    go_ret
    exact ⟨rfl, HBz.out⟩
   | true =>
    have HX1 := Lib.hid (HSX.out (by simpa using hfx))
    have HY1 := Lib.hid (HSY.out (by simpa using hfy))
    have HZ1 := Lib.hid (HSZ.out (by simpa using hfz))
    have HMX := Lib.hid (made_is w p n c x HX.out HX1.out)
    have HMY := Lib.hid (made_is w q m d y HY.out HY1.out)
    have HMZ := Lib.hid (made_is w r k f z HZ.out HZ1.out)
    have HXX : Hid (isOk (mt x x) = true ∧ okL (mt x x) = []) := Lib.hid (by rw [mt_self]; exact ⟨rfl, rfl⟩)
    obtain ⟨zp, hzp⟩ : ∃ zp, isOk (mt x y) = zp := ⟨_, rfl⟩
    obtain ⟨zq, hzq⟩ : ∃ zq, isOk (mt y z) = zq := ⟨_, rfl⟩
    obtain ⟨zr, hzr⟩ : ∃ zr, isOk (mt x z) = zr := ⟨_, rfl⟩
    have HON : Hid (zp = true → zq = true → zr = true) := Lib.hid fun h1 h2 => by rw [← hzr]; exact mt_on (hzp.trans h1) (hzq.trans h2)
    have HZP := Lib.hid hzp
    have HZQ := Lib.hid hzq
    have HZR := Lib.hid hzr
    clear hzp hzq hzr hfx hfy hfz HSX HSY HSZ
    have hln : ∀ (W : World) (q : Option Addr) (n c : Nat), (Builtin.len_ #[25] 3 #[.slice q n c]).run Try.prog W = .ok (.int .i64 n) W := fun W q n c => rfl
    cases zp with
    | false =>
     clear HON
     go_enter Try.func4, Try.ntmps4
     go_wp2_with fail
     refine (HFX.out _ HB0.out).mono ?_
     rintro e w1 ⟨rfl, hb1⟩
     have HB1 := Lib.hid hb1
     clear hb1
     go_wp2_with fail
     refine (HFY.out _ HB1.out).mono ?_
     rintro e w2 ⟨rfl, hb2⟩
     have HB2 := Lib.hid hb2
     clear hb2
     go_wp2_with fail
     refine (HFZ.out _ HB2.out).mono ?_
     rintro e w3 ⟨rfl, hb3⟩
     have HB3 := Lib.hid hb3
     clear hb3
     go_wp2_with fail
     refine (HMX.out _ HB3.out).mono ?_
     rintro e w4 ⟨a4, rfl, he4, hb4, hc4⟩
     have HB4 := Lib.hid hb4
     have HE4 := Lib.hid he4
     have HC4 := Lib.hid hc4
     clear hb4 he4 hc4
     go_wp2_with fail
     refine (HMY.out _ HB4.out).mono ?_
     rintro e w5 ⟨a5, rfl, he5, hb5, hc5⟩
     have HB5 := Lib.hid hb5
     have HE5 := Lib.hid he5
     have HC5 := Lib.hid hc5
     clear hb5 he5 hc5
     have HE4 := Lib.hid (HE4.out.step HC5.out)
     go_wp2_with fail
     refine (HMZ.out _ HB5.out).mono ?_
     rintro e w6 ⟨a6, rfl, he6, hb6, hc6⟩
     have HB6 := Lib.hid hb6
     have HE6 := Lib.hid he6
     have HC6 := Lib.hid hc6
     clear hb6 he6 hc6
     have HE4 := Lib.hid (HE4.out.step HC6.out)
     have HE5 := Lib.hid (HE5.out.step HC6.out)
     have HQ1 := Lib.hid (mat_det w6 a4 a4 x x HE4.out HE4.out HX1.out true HXX.out.1)
     have HQ2 := Lib.hid (mat_det w6 a4 a5 x y HE4.out HE5.out HX1.out _ HZP.out)
     have HQ3 := Lib.hid (mat_det w6 a5 a6 y z HE5.out HE6.out HY1.out _ HZQ.out)
     have HQ4 := Lib.hid (mat_det w6 a4 a6 x z HE4.out HE6.out HX1.out _ HZR.out)
     have HD6 := Lib.hid (Below.refl w6.heap.size w6)
     rw [HXX.out.2] at HQ1
     go_wp2_with fail
     refine (HQ1.out _ HD6.out).mono ?_
     rintro e w7 ⟨q7, n7, c7, ki7, ks7, rfl, hn7, hb7⟩
     have HN7 := Lib.hid hn7
     have HD7 := Lib.hid (hb7.alloc hb7.size (.cells #[.int .i64 ki7, .string ks7] 27))
     clear hn7 hb7
     obtain rfl : n7 = 0 := HN7.out
     go_wp2_with fail
     refine (HQ2.out _ HD7.out).mono ?_
     rintro e w8 ⟨q8, n8, c8, ki8, ks8, rfl, hn8, hb8⟩
     have HN8 := Lib.hid hn8
     have HD8 := Lib.hid (hb8.alloc hb8.size (.cells #[.int .i64 ki8, .string ks8] 27))
     clear hn8 hb8
     go_wp2_with fail
     refine (HQ3.out _ HD8.out).mono ?_
     rintro e w9 ⟨q9, n9, c9, ki9, ks9, rfl, hn9, hb9⟩
     have HN9 := Lib.hid hn9
     have HD9 := Lib.hid (hb9.alloc hb9.size (.cells #[.int .i64 ki9, .string ks9] 27))
     clear hn9 hb9
     go_wp2_with fail
     refine (HQ4.out _ HD9.out).mono ?_
     rintro e w10 ⟨q10, n10, c10, ki10, ks10, rfl, hn10, hb10⟩
     have HN10 := Lib.hid hn10
     have HD10 := Lib.hid (hb10.alloc hb10.size (.cells #[.int .i64 ki10, .string ks10] 27))
     clear hn10 hb10
     have HBL := Lib.hid (HB6.out.trans (HD10.out.mono HB6.out.size))
     go_wp2_with fail
     refine (HAL.out _ HBL.out).mono ?_
     rintro e wz ⟨rfl, hbz⟩
     have HBz := Lib.hid hbz
     clear hbz
     go_wp2_with fail
     go_ret
     exact ⟨rfl, HBz.out⟩
    | true =>
     cases zq with
     | false =>
      clear HON
      go_enter Try.func4, Try.ntmps4
      go_wp2_with fail
      refine (HFX.out _ HB0.out).mono ?_
      rintro e w1 ⟨rfl, hb1⟩
      have HB1 := Lib.hid hb1
      clear hb1
      go_wp2_with fail
      refine (HFY.out _ HB1.out).mono ?_
      rintro e w2 ⟨rfl, hb2⟩
      have HB2 := Lib.hid hb2
      clear hb2
      go_wp2_with fail
      refine (HFZ.out _ HB2.out).mono ?_
      rintro e w3 ⟨rfl, hb3⟩
      have HB3 := Lib.hid hb3
      clear hb3
      go_wp2_with fail
      refine (HMX.out _ HB3.out).mono ?_
      rintro e w4 ⟨a4, rfl, he4, hb4, hc4⟩
      have HB4 := Lib.hid hb4
      have HE4 := Lib.hid he4
      have HC4 := Lib.hid hc4
      clear hb4 he4 hc4
      go_wp2_with fail
      refine (HMY.out _ HB4.out).mono ?_
      rintro e w5 ⟨a5, rfl, he5, hb5, hc5⟩
      have HB5 := Lib.hid hb5
      have HE5 := Lib.hid he5
      have HC5 := Lib.hid hc5
      clear hb5 he5 hc5
      have HE4 := Lib.hid (HE4.out.step HC5.out)
      go_wp2_with fail
      refine (HMZ.out _ HB5.out).mono ?_
      rintro e w6 ⟨a6, rfl, he6, hb6, hc6⟩
      have HB6 := Lib.hid hb6
      have HE6 := Lib.hid he6
      have HC6 := Lib.hid hc6
      clear hb6 he6 hc6
      have HE4 := Lib.hid (HE4.out.step HC6.out)
      have HE5 := Lib.hid (HE5.out.step HC6.out)
      have HQ1 := Lib.hid (mat_det w6 a4 a4 x x HE4.out HE4.out HX1.out true HXX.out.1)
      have HQ2 := Lib.hid (mat_det w6 a4 a5 x y HE4.out HE5.out HX1.out _ HZP.out)
      have HQ3 := Lib.hid (mat_det w6 a5 a6 y z HE5.out HE6.out HY1.out _ HZQ.out)
      have HQ4 := Lib.hid (mat_det w6 a4 a6 x z HE4.out HE6.out HX1.out _ HZR.out)
      have HD6 := Lib.hid (Below.refl w6.heap.size w6)
      rw [HXX.out.2] at HQ1
      go_wp2_with fail
      refine (HQ1.out _ HD6.out).mono ?_
      rintro e w7 ⟨q7, n7, c7, ki7, ks7, rfl, hn7, hb7⟩
      have HN7 := Lib.hid hn7
      have HD7 := Lib.hid (hb7.alloc hb7.size (.cells #[.int .i64 ki7, .string ks7] 27))
      clear hn7 hb7
      obtain rfl : n7 = 0 := HN7.out
      go_wp2_with fail
      refine (HQ2.out _ HD7.out).mono ?_
      rintro e w8 ⟨q8, n8, c8, ki8, ks8, rfl, hn8, hb8⟩
      have HN8 := Lib.hid hn8
      have HD8 := Lib.hid (hb8.alloc hb8.size (.cells #[.int .i64 ki8, .string ks8] 27))
      clear hn8 hb8
      go_wp2_with fail
      refine (HQ3.out _ HD8.out).mono ?_
      rintro e w9 ⟨q9, n9, c9, ki9, ks9, rfl, hn9, hb9⟩
      have HN9 := Lib.hid hn9
      have HD9 := Lib.hid (hb9.alloc hb9.size (.cells #[.int .i64 ki9, .string ks9] 27))
      clear hn9 hb9
      go_wp2_with fail
      refine (HQ4.out _ HD9.out).mono ?_
      rintro e w10 ⟨q10, n10, c10, ki10, ks10, rfl, hn10, hb10⟩
      have HN10 := Lib.hid hn10
      have HD10 := Lib.hid (hb10.alloc hb10.size (.cells #[.int .i64 ki10, .string ks10] 27))
      clear hn10 hb10
      have HBL := Lib.hid (HB6.out.trans (HD10.out.mono HB6.out.size))
      go_wp2_with fail
      refine (HAL.out _ HBL.out).mono ?_
      rintro e wz ⟨rfl, hbz⟩
      have HBz := Lib.hid hbz
      clear hbz
      go_wp2_with fail
      go_ret
      exact ⟨rfl, HBz.out⟩
     | true =>
      obtain rfl : zr = true := HON.out rfl rfl
      clear HON
      go_enter Try.func4, Try.ntmps4
      go_wp2_with fail
      refine (HFX.out _ HB0.out).mono ?_
      rintro e w1 ⟨rfl, hb1⟩
      have HB1 := Lib.hid hb1
      clear hb1
      go_wp2_with fail
      refine (HFY.out _ HB1.out).mono ?_
      rintro e w2 ⟨rfl, hb2⟩
      have HB2 := Lib.hid hb2
      clear hb2
      go_wp2_with fail
      refine (HFZ.out _ HB2.out).mono ?_
      rintro e w3 ⟨rfl, hb3⟩
      have HB3 := Lib.hid hb3
      clear hb3
      go_wp2_with fail
      refine (HMX.out _ HB3.out).mono ?_
      rintro e w4 ⟨a4, rfl, he4, hb4, hc4⟩
      have HB4 := Lib.hid hb4
      have HE4 := Lib.hid he4
      have HC4 := Lib.hid hc4
      clear hb4 he4 hc4
      go_wp2_with fail
      refine (HMY.out _ HB4.out).mono ?_
      rintro e w5 ⟨a5, rfl, he5, hb5, hc5⟩
      have HB5 := Lib.hid hb5
      have HE5 := Lib.hid he5
      have HC5 := Lib.hid hc5
      clear hb5 he5 hc5
      have HE4 := Lib.hid (HE4.out.step HC5.out)
      go_wp2_with fail
      refine (HMZ.out _ HB5.out).mono ?_
      rintro e w6 ⟨a6, rfl, he6, hb6, hc6⟩
      have HB6 := Lib.hid hb6
      have HE6 := Lib.hid he6
      have HC6 := Lib.hid hc6
      clear hb6 he6 hc6
      have HE4 := Lib.hid (HE4.out.step HC6.out)
      have HE5 := Lib.hid (HE5.out.step HC6.out)
      have HQ1 := Lib.hid (mat_det w6 a4 a4 x x HE4.out HE4.out HX1.out true HXX.out.1)
      have HQ2 := Lib.hid (mat_det w6 a4 a5 x y HE4.out HE5.out HX1.out _ HZP.out)
      have HQ3 := Lib.hid (mat_det w6 a5 a6 y z HE5.out HE6.out HY1.out _ HZQ.out)
      have HQ4 := Lib.hid (mat_det w6 a4 a6 x z HE4.out HE6.out HX1.out _ HZR.out)
      have HD6 := Lib.hid (Below.refl w6.heap.size w6)
      rw [HXX.out.2] at HQ1
      go_wp2_with fail
      refine (HQ1.out _ HD6.out).mono ?_
      rintro e w7 ⟨q7, n7, c7, ki7, ks7, rfl, hn7, hb7⟩
      have HN7 := Lib.hid hn7
      have HD7 := Lib.hid (hb7.alloc hb7.size (.cells #[.int .i64 ki7, .string ks7] 27))
      clear hn7 hb7
      obtain rfl : n7 = 0 := HN7.out
      go_wp2_with fail
      refine (HQ2.out _ HD7.out).mono ?_
      rintro e w8 ⟨q8, n8, c8, ki8, ks8, rfl, hn8, hb8⟩
      have HN8 := Lib.hid hn8
      have HD8 := Lib.hid (hb8.alloc hb8.size (.cells #[.int .i64 ki8, .string ks8] 27))
      clear hn8 hb8
      go_wp2_with fail
      refine (HQ3.out _ HD8.out).mono ?_
      rintro e w9 ⟨q9, n9, c9, ki9, ks9, rfl, hn9, hb9⟩
      have HN9 := Lib.hid hn9
      have HD9 := Lib.hid (hb9.alloc hb9.size (.cells #[.int .i64 ki9, .string ks9] 27))
      clear hn9 hb9
      go_wp2_with fail
      refine (HQ4.out _ HD9.out).mono ?_
      rintro e w10 ⟨q10, n10, c10, ki10, ks10, rfl, hn10, hb10⟩
      have HN10 := Lib.hid hn10
      have HD10 := Lib.hid (hb10.alloc hb10.size (.cells #[.int .i64 ki10, .string ks10] 27))
      clear hn10 hb10
      have HBL := Lib.hid (HB6.out.trans (HD10.out.mono HB6.out.size))
      go_wp2_with fail
      refine (HAL.out _ HBL.out).mono ?_
      rintro e wz ⟨rfl, hbz⟩
      have HBz := Lib.hid hbz
      clear hbz
      go_wp2_with fail
      go_ret
      exact ⟨rfl, HBz.out⟩
end Go.Proofs.Ytagkpcnedccaiaa
