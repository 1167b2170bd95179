/-
  Get: the number with which bytes begin.
-/
import Derived.Test.YtlfnefgcndhomaaDec
import Derived.Test.YtlfnefgcndhomaaPlace
namespace Go.Proofs.Ytlfnefgcndhomaa
open Go.RowKit
set_option linter.unusedVariables false

theorem isLast_any (c : UInt8) (i : Nat) (w : World) (hi : i ≤ 9) :
    Calls Try.prog 40 #[.int .u8 (c.toNat : Int), .int .i64 i] w fun e w' => e = .returned (.bool (lastB c i)) ∧ w = w' := by
  have hc := c.toNat_lt
  by_cases h9 : i = 9
  · subst h9
    have H : Hid (((c.toNat : Int) == 1) = lastB c 9) := Lib.hid (by
      unfold lastB; rw [if_pos rfl, Bool.eq_iff_iff, beq_iff_eq, decide_eq_true_eq]; omega)
    go_enter Try.func40, Try.ntmps40
    go_wp2
    go_ret
    exact ⟨ret_bool H.out, rfl⟩
  · have h9b : ((i : Int) == 9) = false := by rw [beq_eq_false_iff_ne]; omega
    by_cases hc0 : c.toNat = 0
    · have hcb : ((c.toNat : Int) == 0) = true := by rw [beq_iff_eq]; omega
      have hcn : ((c.toNat : Int) != 0) = false := by rw [bne, hcb]; rfl
      have H : Hid (((i : Int) == 0) = lastB c i) := Lib.hid (by
        unfold lastB; rw [if_neg h9, hc0, Bool.eq_iff_iff, beq_iff_eq]; simp)
      clear hc0
      go_enter Try.func40, Try.ntmps40
      go_wp2
      go_ret
      exact ⟨ret_bool H.out, rfl⟩
    · have hcb : ((c.toNat : Int) == 0) = false := by rw [beq_eq_false_iff_ne]; omega
      have hcn : ((c.toNat : Int) != 0) = true := by rw [bne, hcb]; rfl
      have H : Hid (true = lastB c i) := Lib.hid (by
        unfold lastB; rw [if_neg h9]; simp [hc0])
      clear hc0
      go_enter Try.func40, Try.ntmps40
      go_wp2
      go_ret
      exact ⟨ret_bool H.out, rfl⟩

theorem and_not128 (d : UInt8) : bits .andNot .u8 (d.toNat : Int) 128 = ((d.toNat % 128 : Nat) : Int) := by
  have hd := d.toNat_lt
  rw [show (128 : Int) = ((128 : Nat) : Int) from rfl, u8_andNot_nat _ _ (by omega) (by omega), show 255 - 128 = 127 from rfl, nat_mask7]
theorem and128_yes (d : UInt8) (h : 128 ≤ d.toNat) : bits .and .u8 (d.toNat : Int) 128 = 128 := by
  have hd := d.toNat_lt
  have := nat_bit 7 d.toNat
  rw [show (2 : Nat) ^ 7 = 128 from rfl] at this
  rw [show (128 : Int) = ((128 : Nat) : Int) from rfl, u8_and_nat _ _ (by omega) (by omega), this]
  omega
theorem and128_no (d : UInt8) (h : ¬ 128 ≤ d.toNat) : bits .and .u8 (d.toNat : Int) 128 = 0 := by
  have hd := d.toNat_lt
  have := nat_bit 7 d.toNat
  rw [show (2 : Nat) ^ 7 = 128 from rfl] at this
  rw [show (128 : Int) = ((128 : Nat) : Int) from rfl, u8_and_nat _ _ (by omega) (by omega), this]
  omega
theorem or_lt {x y : Nat} (hx : x < 18446744073709551616) (hy : y < 18446744073709551616) : x ||| y < 18446744073709551616 := Nat.or_lt_two_pow (n := 64) hx hy
theorem pow7 (k : Nat) : 2 ^ (7 * k) = 128 ^ k := by rw [Nat.pow_mul]
theorem shift_small (k : Nat) (d : UInt8) (h : k ≤ 8) : d.toNat % 128 * 128 ^ k < 18446744073709551616 := by
  have h1 : 128 ^ k ≤ 128 ^ 8 := Nat.pow_le_pow_right (by omega) h
  calc d.toNat % 128 * 128 ^ k ≤ 127 * 128 ^ 8 := Nat.mul_le_mul (by omega) h1
    _ < 18446744073709551616 := by decide
theorem or_shift (A k : Nat) (d : UInt8) (hA : A < 128 ^ k) (hk : k < 10) :
    ∃ A' : Nat, A' < 18446744073709551616 ∧ bits .or .u64 (A : Int) (IntKind.u64.wrap ((d.toNat : Int) % 128 * 2 ^ (7 * k))) = (A' : Int) ∧ (d.toNat % 128 * 128 ^ k < 18446744073709551616 → A' = A + 128 ^ k * (d.toNat % 128)) := by
  have hp : 128 ^ k ≤ 128 ^ 9 := Nat.pow_le_pow_right (by omega) (by omega)
  have hA64 : A < 18446744073709551616 := by
    have : (128 : Nat) ^ 9 < 18446744073709551616 := by decide
    omega
  have hs : ((d.toNat : Int) % 128 * 2 ^ (7 * k)) = ((d.toNat % 128 * 128 ^ k : Nat) : Int) := by
    rw [← pow7 k, Int.natCast_mul, Int.natCast_pow]; rfl
  have hw : IntKind.u64.wrap ((d.toNat : Int) % 128 * 2 ^ (7 * k)) = ((d.toNat % 128 * 128 ^ k % 18446744073709551616 : Nat) : Int) := by
    rw [hs, IntKind.wrap_u64]; omega
  generalize hS : d.toNat % 128 * 128 ^ k = S at *
  refine ⟨A ||| S % 18446744073709551616, or_lt hA64 (by omega), ?_, fun h => ?_⟩
  · rw [hw, u64_or_nat _ _ hA64 (by omega)]
  · rw [Nat.mod_eq_of_lt h, Nat.or_comm, nat_join (7 * k) S A (by rw [pow7, ← hS, Nat.mul_mod_left]) (by rw [pow7]; exact hA), ← hS, Nat.add_comm, Nat.mul_comm]
theorem ret_get {l : List UInt8} {v : Int} {k e : Int} (h1 : ((getV l : Nat) : Int) = v) (h2 : ((getK l : Nat) : Int) = k) (h3 : getE l = e) : Ending.returned (.tuple #[.int .u64 v, .int .i64 k, .int .i64 e]) = .returned (.tuple #[.int .u64 (getV l : Nat), .int .i64 (getK l : Nat), .int .i64 (getE l)]) := by rw [h1, h2, h3]

theorem get_nothing (p : Option Addr) (c : Nat) (w : World) :
    Calls Try.prog 17 #[.slice p 0 c] w fun e w' => e = .returned (.tuple #[.int .u64 (getV [] : Nat), .int .i64 (getK [] : Nat), .int .i64 (getE [])]) ∧ w = w' := by
  have H := Lib.hid get_nil
  go_enter Try.func17, Try.ntmps17
  go_wp2
  go_ret3
  exact ⟨ret_get (by rw [H.out.1]; rfl) (by rw [H.out.2.1]; rfl) H.out.2.2, rfl⟩

set_option maxRecDepth 10000 in
set_option maxHeartbeats 1000000 in
theorem getW_some (l : List UInt8) (b off c n : Nat) (w : World) (hat : At mkB w b off l) (hb : b < w.heap.size) (hc : n ≤ c) (hn : l.length = n) (h0 : 0 < n) (hlim : n ≤ 9223372036854775807) :
    Calls Try.prog 17 #[.slice (some ⟨b, off, none⟩) n c] w fun e w' => e = .returned (.tuple #[.int .u64 (getV l : Nat), .int .i64 (getK l : Nat), .int .i64 (getE l)]) ∧ w = w' := by
  have H := Lib.hid hat
  have HN := Lib.hid hn
  have HNE : Hid (l ≠ []) := Lib.hid (by intro e; subst e; simp at hn; omega)
  have hz : ((n : Int) == 0) = false := by rw [beq_eq_false_iff_ne]; omega
  clear hat hn
  by_cases h10 : n ≤ 10
  all_goals
    go_enter Try.func17, Try.ntmps17
    go_wp2
    go_loop [5, 17] (fun a i => ∃ k A : Nat, k ≤ n ∧ k ≤ 10 ∧ i = .int .i64 k ∧ a = .int .u64 A ∧ A < 18446744073709551616 ∧ (k ≤ 9 → Getting l k A) ∧ (k = 10 → dec 0 l = none)) (fun _ i => 10 - (intOf i).toNat)
    case atStart => exact ⟨0, 0, by omega, by omega, rfl, rfl, by omega, fun _ => Getting.start l, fun h => by omega⟩
    case round =>
      obtain ⟨k, A, hk, hk10, rfl, rfl, hA, hG, hX⟩ := hrel
      have HG := Lib.hid hG
      have HX := Lib.hid hX
      clear hG hX
      by_cases hlt : k < n ∧ k < 10
      · obtain ⟨hkn, hk9⟩ := hlt
        have hkl : Hid (k < l.length) := Lib.hid (by rw [HN.out]; exact hkn)
        have e0 : w.cell? ⟨b, off + k, none⟩ = some (.int .u8 ((l[k]'(hkl.out)).toNat : Int)) := H.out k hkl.out
        have hG := HG.out (by omega)
        have HN1 := Lib.hid (fun h => hG.next hkl.out hk9 h)
        have HN2 := Lib.hid (fun h g => hG.yes hkl.out hk9 h g)
        have HN3 := Lib.hid (fun h g => hG.no hkl.out hk9 h g)
        have hA2 : A < 128 ^ k := hG.small
        generalize l[k]'(hkl.out) = d at *
        have hd := d.toNat_lt
        have a1 : bits .andNot .u8 (d.toNat : Int) 128 = ((d.toNat % 128 : Nat) : Int) := and_not128 d
        have HA2 := Lib.hid hA2
        clear hG hA2
        obtain ⟨A', hA', hbits, hadd⟩ := or_shift A k d HA2.out hk9
        have HADD := Lib.hid hadd
        clear hadd
        by_cases hc : 128 ≤ d.toNat
        · have a2 : bits .and .u8 (d.toNat : Int) 128 = 128 := and128_yes d hc
          have HNX := Lib.hid (HN1.out hc)
          go_wp2_with fail
          go_round
          case rel =>
            refine ⟨k + 1, A', by omega, by omega, by go_num, rfl, hA', fun h9 => ?_, fun h10 => (HNX.out).over (by omega)⟩
            rw [HADD.out (shift_small k d (by omega))]
            exact HNX.out
          case measure => simp [intOf]; omega
        · have a2 : bits .and .u8 (d.toNat : Int) 128 = 0 := and128_no d hc
          by_cases hl : lastB d k = true
          · have HD := Lib.hid (HN2.out hc hl)
            have HCL : ∀ w, Calls Try.prog 40 #[.int .u8 (d.toNat : Int), .int .i64 k] w fun e w' => e = .returned (.bool true) ∧ w = w' := fun w => by
              refine (isLast_any d k w (by omega)).mono ?_
              rintro e w' ⟨rfl, rfl⟩
              exact ⟨ret_bool hl, rfl⟩
            have HV : Hid (A' = A + 128 ^ k * d.toNat) := Lib.hid (by
              have h1 := (dec_some l 0 _ _ HD.out).2.2.2.1
              rw [HADD.out (by rw [Nat.mod_eq_of_lt (by omega), Nat.mul_comm]; omega), Nat.mod_eq_of_lt (by omega)])
            clear hl HN1 HN2 HN3
            go_wp2_with fail
            refine (HCL _).mono ?_
            rintro e w1 ⟨rfl, rfl⟩
            go_wp2_with fail
            go_ret3
            obtain ⟨r1, r2, r3⟩ := get_some HD.out
            exact ⟨ret_get (by rw [r1, ← HV.out]) (by rw [r2]; omega) r3, rfl⟩
          · have hlf : lastB d k = false := by simpa using hl
            have HD := Lib.hid (HN3.out hc hlf)
            have HCL : ∀ w, Calls Try.prog 40 #[.int .u8 (d.toNat : Int), .int .i64 k] w fun e w' => e = .returned (.bool false) ∧ w = w' := fun w => by
              refine (isLast_any d k w (by omega)).mono ?_
              rintro e w' ⟨rfl, rfl⟩
              exact ⟨ret_bool hlf, rfl⟩
            clear hl hlf HN1 HN2 HN3
            go_wp2_with fail
            refine (HCL _).mono ?_
            rintro e w1 ⟨rfl, rfl⟩
            go_wp2_with fail
            go_ret3
            obtain ⟨r1, r2, r3⟩ := get_none HD.out HNE.out
            exact ⟨ret_get (by rw [r1]; rfl) (by rw [r2]; rfl) r3, rfl⟩
      · have HD : Hid (dec 0 l = none) := Lib.hid (by
          by_cases h9 : k ≤ 9
          · exact (HG.out h9).over (by rw [HN.out]; exact hlt)
          · exact HX.out (by omega))
        have hlt2 : n ≤ k ∨ 10 ≤ k := by omega
        go_wp2_with fail
        go_ret3
        obtain ⟨r1, r2, r3⟩ := get_none HD.out HNE.out
        exact ⟨ret_get (by rw [r1]; rfl) (by rw [r2]; rfl) r3, rfl⟩

/-- Get: the number, how many bytes it has, what is wrong. -/
theorem get_any (p : Option Addr) (n c : Nat) (l : List UInt8) (w : World) (h : In mkB w p n c l) (hlim : n ≤ 9223372036854775807) :
    Calls Try.prog 17 #[.slice p n c] w fun e w' => e = .returned (.tuple #[.int .u64 (getV l : Nat), .int .i64 (getK l : Nat), .int .i64 (getE l)]) ∧ w = w' := by
  by_cases h0 : n = 0
  · subst h0
    obtain rfl := h.zero
    exact get_nothing p c w
  · obtain ⟨hn, h1 | ⟨b, off, rfl, hc, hb, hat⟩⟩ := h
    · omega
    · exact getW_some l b off c n w hat hb hc hn.symm (by omega) hlim
end Go.Proofs.Ytlfnefgcndhomaa
