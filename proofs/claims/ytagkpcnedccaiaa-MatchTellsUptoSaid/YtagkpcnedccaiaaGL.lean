/-
  The law MatchTells, walked.
-/
import Derived.Test.YtagkpcnedccaiaaGK
import Derived.Test.YtagkpcnedccaiaaGI
namespace Go.Proofs.Ytagkpcnedccaiaa
open Go.RowKit
set_option maxRecDepth 20000
set_option linter.unusedVariables false
set_option linter.unusedSimpArgs false

theorem rm_any : ∀ (N : Nat) (l m : List Bn) (w : World) (p p' : Option Addr) (n c n' c' : Nat), sizes l ≤ N → sizes l ≤ 4000 → sizes m ≤ 4000 → Bl w p n c l → Bl w p' n' c' m → Calls Try.prog 11 #[.slice p n c, .slice p' n' c'] w (RmPost w l m) := by
 intro N
 induction N with
 | zero =>
  intro l m w p p' n c n' c' hN hs hs' hl hm
  exact rm_step l m w p p' n c n' c' hl hm hs hs' (fun l1 m1 w1 q q' k d k' d' h => by omega)
 | succ N ih =>
  intro l m w p p' n c n' c' hN hs hs' hl hm
  exact rm_step l m w p p' n c n' c' hl hm hs hs' (fun l1 m1 w1 q q' k d k' d' h1 h2 h3 h4 => ih l1 m1 w1 q q' k d k' d' (by omega) (by omega) h2 h3 h4)
theorem eql27 (a b : Ky) (W : World) : (binOp .eql 27 (.agg #[.int .i64 a.1, .string a.2]) (.agg #[.int .i64 b.1, .string b.2])).run Try.prog W = .ok (.bool (decide (a = b))) W := by
 have := key31_eq a b W
 unfold keyV at this
 simp only [binOp]
 simp [this]
/-- The key that is missed, or none. -/
def missK : Except Ky (List P2) → Ky
 | .ok _ => (0, ⟨#[]⟩)
 | .error k => k
theorem mat_tell (wE : World) (a d : Option Nat) (x y : List Bn) (ha : EnvIs wE (a.bind at0) x) (hd : EnvIs wE (d.bind at0) y) (hx : sizes x ≤ 100) (z : Bool) (hz : isOk (mt x y) = z) (K : Ky) (hK : missK (mt x y) = K) (L : List P2) (hL : okL (mt x y) = L) (W : World) (hW : Below wE.heap.size wE W) :
  Calls Try.prog 9 #[.pointer (a.bind at0), .pointer (d.bind at0)] W fun e w' => ∃ (q : Option Addr) (n c : Nat), e = .returned (.tuple #[.slice q n c, .agg #[.int .i64 K.1, .string K.2], .bool z]) ∧ PS w' q n c L ∧ Below wE.heap.size wE w' := by
 refine (match_any W a d x y (ha.step hW) (hd.step hW) (by omega)).mono ?_
 rintro e w' ⟨v, k, rfl, ho, hb, h1, h2⟩
 obtain ⟨q, c, rfl, hp⟩ := own_slice ho
 have hk : k = K := by
  cases hm : mt x y with
  | ok l => rw [h1 (by rw [hm]; rfl), ← hK, hm]; rfl
  | error e => rw [h2 e hm, ← hK, hm]; rfl
 exact ⟨q, _, c, by rw [hz, hk], by rw [← hL]; exact hp, hW.trans (hb.mono hW.size)⟩
theorem rm_tell (w wE : World) (p p' : Option Addr) (n c n' c' : Nat) (x y : List Bn) (hx : Bl w p n c x) (hy : Bl w p' n' c' y) (sx : sizes x ≤ 100) (sy : sizes y ≤ 100) (hE : Below w.heap.size w wE) (z : Bool) (hz : isOk (mt x y) = z) (K : Ky) (hK : missK (mt x y) = K) (L : List P2) (hL : okL (mt x y) = L) (W : World) (hW : Below wE.heap.size wE W) :
  Calls Try.prog 11 #[.slice p n c, .slice p' n' c'] W fun e w' => ∃ (q : Option Addr) (n c : Nat) (dc via : Int) (pp : Option Addr) (pn pc : Nat) (qp : Option Addr) (qn qc : Nat), e = .returned (.tuple #[.slice q n c, .agg #[.int .i64 K.1, .string K.2, .int .i64 dc, .int .i64 via, .slice pp pn pc, .slice qp qn qc], .bool z]) ∧ PS w' q n c L ∧ Below W.heap.size W w' := by
 have hw : Below w.heap.size w W := hE.trans (hW.mono hE.size)
 refine (rm_any 4000 x y W p p' n c n' c' (by omega) (by omega) (by omega) (hx.step hw) (hy.step hw)).mono ?_
 rintro e w' ⟨q, n, c, h, rfl, ho, hb, h1, h2⟩
 have hk : h.k = K := by
  cases hm : mt x y with
  | ok l => rw [h1 (by rw [hm]; rfl), ← hK, hm]; rfl
  | error e => rw [h2 e hm, ← hK, hm]; rfl
 obtain ⟨q', n2, c2, e1, hp⟩ := ho.ps
 simp only [Value.slice.injEq] at e1
 obtain ⟨rfl, rfl, rfl⟩ := e1
 exact ⟨q, n, c, h.dc, h.via, h.pp, h.pn, h.pc, h.qp, h.qn, h.qc, by rw [hz, ← hk]; rfl, by rw [← hL]; exact hp, hb⟩
set_option maxHeartbeats 16000000 in
theorem matchTells_any (p : Option Addr) (n c : Nat) (x : List Bn) (q : Option Addr) (m d : Nat) (y : List Bn) (w : World) (hx : Bl w p n c x) (hy : Bl w q m d y) (sx : sizes x ≤ 2000000) (sy : sizes y ≤ 2000000) :
  Calls Try.prog 3 #[.slice p n c, .slice q m d] w (TruePost w) := by
 have HAL : Hid (∀ W, Below w.heap.size w W → Calls Try.prog 8 #[] W fun e w' => e = .returned (.bool true) ∧ Below w.heap.size w w') := Lib.hid fun W hW => by
  refine (alive_any W).mono ?_
  rintro e w' ⟨h1, h2⟩
  exact ⟨h1, hW.trans (h2.mono hW.size)⟩
 have HFX := Lib.hid (few_any w p n c x hx sx)
 have HFY := Lib.hid (few_any w q m d y hy sy)
 have HSX : Hid (rsL 100 0 x ≤ 100 → sizes x ≤ 100) := Lib.hid fun h => by have := (rsL_bd x 100 0 (by omega)).2.2 h; omega
 have HSY : Hid (rsL 100 0 y ≤ 100 → sizes y ≤ 100) := Lib.hid fun h => by have := (rsL_bd y 100 0 (by omega)).2.2 h; omega
 have HX := Lib.hid hx
 have HY := Lib.hid hy
 have HB0 := Lib.hid (Below.refl w.heap.size w)
 clear hx hy sx sy
 generalize hfx : decide (rsL 100 0 x ≤ 100) = fx at *
 generalize hfy : decide (rsL 100 0 y ≤ 100) = fy at *
 cases fx with
 | false =>
  clear hfx hfy
  go_enter Try.func3, Try.ntmps3
  go_wp2_with fail
  refine (HFX.out _ HB0.out).mono ?_
  rintro e w1 ⟨rfl, hb1⟩
  have HB1 := Lib.hid hb1
  clear hb1
  go_wp2_with fail
  refine (HAL.out _ HB1.out).mono ?_
  rintro e wz ⟨rfl, hbz⟩
  have HBz := Lib.hid hbz
  clear hbz
  go_wp2_with fail
  go_ret
  exact ⟨rfl, HBz.out⟩
 | true =>
  cases fy with
  | false =>
   clear hfx hfy
   go_enter Try.func3, Try.ntmps3
   go_wp2_with fail
   refine (HFX.out _ HB0.out).mono ?_
   rintro e w1 ⟨rfl, hb1⟩
   have HB1 := Lib.hid hb1
   clear hb1
   go_wp2_with fail
   refine (HFY.out _ HB1.out).mono ?_
   rintro e w2 ⟨rfl, hb2⟩
   have HB2 := Lib.hid hb2
   clear hb2
   go_wp2_with fail
   refine (HAL.out _ HB2.out).mono ?_
   rintro e wz ⟨rfl, hbz⟩
   have HBz := Lib.hid hbz
   clear hbz
   go_wp2_with fail
   go_ret
   exact ⟨rfl, HBz.out⟩
  | true =>
   have HX1 := Lib.hid (HSX.out (by simpa using hfx))
   have HY1 := Lib.hid (HSY.out (by simpa using hfy))
   have HMX := Lib.hid (made_is w p n c x HX.out HX1.out)
   have HMY := Lib.hid (made_is w q m d y HY.out HY1.out)
   obtain ⟨zp, hzp⟩ : ∃ zp, isOk (mt x y) = zp := ⟨_, rfl⟩
   obtain ⟨⟨ki, ks⟩, hK⟩ : ∃ K, missK (mt x y) = K := ⟨_, rfl⟩
   obtain ⟨L, hL⟩ : ∃ L, okL (mt x y) = L := ⟨_, rfl⟩
   have HZP := Lib.hid hzp
   have HKK := Lib.hid hK
   have HLL := Lib.hid hL
   have HLN : Hid (L.length ≤ 100) := Lib.hid (by rw [← hL]; have := okL_len (x := x) (y := y); have := HX1.out; omega)
   have heq : ∀ W, (binOp .eql 27 (.agg #[.int .i64 ki, .string ks]) (.agg #[.int .i64 ki, .string ks])).run Try.prog W = .ok (.bool true) W := fun W => by have := eql27 (ki, ks) (ki, ks) W; simpa using this
   have hzz : (zp == zp) = true := by simp
   clear hzp hK hL hfx hfy HSX HSY
   go_enter Try.func3, Try.ntmps3
   go_wp2_with fail
   refine (HFX.out _ HB0.out).mono ?_
   rintro e w1 ⟨rfl, hb1⟩
   have HB1 := Lib.hid hb1
   clear hb1
   go_wp2_with fail
   refine (HFY.out _ HB1.out).mono ?_
   rintro e w2 ⟨rfl, hb2⟩
   have HB2 := Lib.hid hb2
   clear hb2
   go_wp2_with fail
   refine (HMX.out _ HB2.out).mono ?_
   rintro e w4 ⟨a4, rfl, he4, hb4, hc4⟩
   have HB4 := Lib.hid hb4
   have HE4 := Lib.hid he4
   have HC4 := Lib.hid hc4
   clear hb4 he4 hc4
   go_wp2_with fail
   refine (HMY.out _ HB4.out).mono ?_
   rintro e w5 ⟨a5, rfl, he5, hb5, hc5⟩
   have HB5 := Lib.hid hb5
   have HE5 := Lib.hid he5
   have HC5 := Lib.hid hc5
   clear hb5 he5 hc5
   have HE4 := Lib.hid (HE4.out.step HC5.out)
   have HQ1 := Lib.hid (mat_tell w5 a4 a5 x y HE4.out HE5.out HX1.out zp HZP.out (ki, ks) HKK.out L HLL.out)
   have HQ2 := Lib.hid (rm_tell w w5 p q n c m d x y HX.out HY.out HX1.out HY1.out HB5.out zp HZP.out (ki, ks) HKK.out L HLL.out)
   have HD5 := Lib.hid (Below.refl w5.heap.size w5)
   go_wp2_with fail
   refine (HQ1.out _ HD5.out).mono ?_
   rintro e w6 ⟨q6, n6, c6, rfl, hp6, hb6⟩
   have HP6 := Lib.hid (hp6.step ((Below.refl _ _).alloc (Nat.le_refl _) (.cells #[.int .i64 ki, .string ks] 27)))
   have HD6 := Lib.hid (hb6.alloc hb6.size (.cells #[.int .i64 ki, .string ks] 27))
   have HT6 := Lib.hid (heap_new w6 (.cells #[.int .i64 ki, .string ks] 27))
   have s6 : w6.heap.size < (w6.alloc (.cells #[.int .i64 ki, .string ks] 27)).heap.size := by simp
   clear hp6 hb6
   dsimp only
   go_wp2_with fail
   refine (HQ2.out _ HD6.out).mono ?_
   rintro e w7 ⟨q7, n7, c7, dc7, via7, pp7, pn7, pc7, qp7, qn7, qc7, rfl, hp7, hb7⟩
   have hal := (Below.refl w7.heap.size w7).alloc (Nat.le_refl _) (.cells #[.int .i64 ki, .string ks, .int .i64 dc7, .int .i64 via7, .slice pp7 pn7 pc7, .slice qp7 qn7 qc7] 33)
   have HP7 := Lib.hid (hp7.step hal)
   have HP67 := Lib.hid ((HP6.out.step hb7).step hal)
   have HD7 := Lib.hid ((HD6.out.trans (hb7.mono HD6.out.size)).trans (hal.mono (Nat.le_trans HD6.out.size hb7.size)))
   have g67 := heap_step (heap_step HT6.out hb7) hal
   have HT67 := Lib.hid g67
   have HT7 := Lib.hid (heap_new w7 (.cells #[.int .i64 ki, .string ks, .int .i64 dc7, .int .i64 via7, .slice pp7 pn7 pc7, .slice qp7 qn7 qc7] 33))
   have s67 : w6.heap.size < w7.heap.size := Nat.lt_of_lt_of_le s6 hb7.size
   clear hp7 hb7 hal g67
   dsimp only
   go_wp2_with fail
   refine (pairs_any q6 q7 n6 n7 c6 c7 L L (w7.alloc (.cells #[.int .i64 ki, .string ks, .int .i64 dc7, .int .i64 via7, .slice pp7 pn7 pc7, .slice qp7 qn7 qc7] 33)) HP67.out HP7.out (by have := HP6.out.1; have := HLN.out; omega)).mono ?_
   rintro e w8 ⟨rfl, hb8⟩
   have HB8 := Lib.hid (HB5.out.trans ((HD7.out.trans (hb8.mono HD7.out.size)).mono HB5.out.size))
   have g68 := heap_step HT67.out hb8
   have g78 := heap_step HT7.out hb8
   have x0 : w8.cell? ⟨w6.heap.size, 0, none⟩ = some (.int .i64 ki) := (cellH g68 0).trans rfl
   have x1 : w8.cell? ⟨w6.heap.size, 1, none⟩ = some (.string ks) := (cellH g68 1).trans rfl
   have y0 : w8.cell? ⟨w7.heap.size, 0, none⟩ = some (.int .i64 ki) := (cellH g78 0).trans rfl
   have y1 : w8.cell? ⟨w7.heap.size, 1, none⟩ = some (.string ks) := (cellH g78 1).trans rfl
   have hLL : decide (L = L) = true := by simp
   rw [hLL]
   clear hb8 g68 g78 hLL
   go_wp2_with fail
   refine (HAL.out _ HB8.out).mono ?_
   rintro e wz ⟨rfl, hbz⟩
   have HBz := Lib.hid hbz
   clear hbz
   go_wp2_with fail
   go_ret
   exact ⟨rfl, HBz.out⟩
end Go.Proofs.Ytagkpcnedccaiaa
