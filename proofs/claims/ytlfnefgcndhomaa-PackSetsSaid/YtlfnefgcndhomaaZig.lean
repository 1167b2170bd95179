/-
  Zig, Zag and the document's Zig.
-/
import Derived.Test.YtlfnefgcndhomaaPlace
import Derived.Lib.Zigzag
namespace Go.Proofs.Ytlfnefgcndhomaa
open Go.RowKit
set_option linter.unusedVariables false

theorem i64_not_neg (n : Int) (h0 : -9223372036854775808 ≤ n) (h1 : n < 0) : bits .xor .i64 (-1) n = -n - 1 := by
  show IntKind.i64.wrap ((BitVec.ofInt 64 (-1) ^^^ BitVec.ofInt 64 n).toNat : Int) = _
  have a1 : (BitVec.ofInt 64 (-1)).toNat = 2 ^ 64 - 1 := by decide
  have a2 : (BitVec.ofInt 64 n).toNat = (n + 18446744073709551616).toNat := by
    rw [BitVec.toNat_ofInt]; congr 1; omega
  rw [BitVec.toNat_xor, a1, a2, Lib.xor_ones64 _ (by omega), IntKind.wrap_i64]
  omega

/-- A number with a sign, as a word. -/
def zigN (n : Int) : Nat := if 0 ≤ n then (2 * n).toNat else (-2 * n - 1).toNat
def zagI (x : Nat) : Int := if x % 2 = 1 then -((x / 2 : Nat) : Int) - 1 else ((x / 2 : Nat) : Int)
theorem zigN_nonneg {n : Int} (h : 0 ≤ n) : ((zigN n : Nat) : Int) = 2 * n := by unfold zigN; rw [if_pos h]; omega
theorem zigN_neg {n : Int} (h : n < 0) : ((zigN n : Nat) : Int) = -2 * n - 1 := by unfold zigN; rw [if_neg (by omega)]; omega
theorem zigN_lt {n : Int} (h0 : -9223372036854775808 ≤ n) (h1 : n ≤ 9223372036854775807) : zigN n < 18446744073709551616 := by unfold zigN; split <;> omega
theorem zag_zig (n : Int) : zagI (zigN n) = n := by unfold zagI zigN; split <;> split <;> omega
theorem zig_zag (x : Nat) : zigN (zagI x) = x := by unfold zagI; split <;> (unfold zigN; split <;> omega)
theorem zagI_range {x : Nat} (h : x < 18446744073709551616) : -9223372036854775808 ≤ zagI x ∧ zagI x ≤ 9223372036854775807 := by unfold zagI; split <;> omega

theorem zig_any (n : Int) (w : World) (h0 : -9223372036854775808 ≤ n) (h1 : n ≤ 9223372036854775807) :
    Calls Try.prog 20 #[.int .i64 n] w fun e w' => e = .returned (.int .u64 (zigN n : Nat)) ∧ w = w' := by
  by_cases h : 0 ≤ n
  · have H := Lib.hid (zigN_nonneg h)
    go_enter Try.func20, Try.ntmps20
    go_wp2
    go_ret
    exact ⟨ret_int (by rw [H.out]; omega), rfl⟩
  · have hn : n < 0 := by omega
    have H := Lib.hid (zigN_neg hn)
    have e1 : bits .xor .i64 (-1) n = -n - 1 := i64_not_neg n h0 hn
    have e2 : Hid (bits .or .u64 ((-n - 1) * 2) 1 = -2 * n - 1) := Lib.hid (by
      have := or_add 1 (((-n - 1) * 2).toNat) 1 (by omega) (by omega) (by omega) (by omega)
      rw [show (((-n - 1) * 2).toNat : Int) = (-n - 1) * 2 by omega] at this
      rw [show (1 : Int) = ((1 : Nat) : Int) from rfl] at this ⊢
      rw [this]
      omega)
    go_enter Try.func20, Try.ntmps20
    go_wp2
    go_ret
    exact ⟨ret_int (by rw [H.out, show IntKind.u64.wrap (IntKind.u64.wrap (-n - 1) * 2) = (-n - 1) * 2 by rw [IntKind.wrap_u64, IntKind.wrap_u64]; omega]; exact e2.out), rfl⟩
theorem refZig_any (n : Int) (w : World) (h0 : -9223372036854775808 ≤ n) (h1 : n ≤ 9223372036854775807) :
    Calls Try.prog 21 #[.int .i64 n] w fun e w' => e = .returned (.int .u64 (zigN n : Nat)) ∧ w = w' := by
  by_cases h : 0 ≤ n
  · have H := Lib.hid (zigN_nonneg h)
    go_enter Try.func21, Try.ntmps21
    go_wp2
    go_ret
    exact ⟨ret_int (by rw [H.out]), rfl⟩
  · have hn : n < 0 := by omega
    have H := Lib.hid (zigN_neg hn)
    go_enter Try.func21, Try.ntmps21
    go_wp2
    go_ret
    exact ⟨ret_int (by rw [H.out]; omega), rfl⟩
theorem zag_any (x : Nat) (w : World) (h0 : x < 18446744073709551616) :
    Calls Try.prog 19 #[.int .u64 x] w fun e w' => e = .returned (.int .i64 (zagI x)) ∧ w = w' := by
  by_cases hx : x % 2 = 1
  · have H : Hid (zagI x = -((x / 2 : Nat) : Int) - 1) := Lib.hid (by unfold zagI; rw [if_pos hx])
    have e1 : bits .and .u64 (x : Int) 1 = 1 := by rw [Lib.u64_and1 _ (by omega) (by omega)]; omega
    have e2 : bits .xor .i64 (-1) ((x : Int) / 2) = -((x / 2 : Nat) : Int) - 1 := by
      rw [show (x : Int) / 2 = ((x / 2 : Nat) : Int) by omega, Lib.i64_not _ (by omega)]
    have E2 := Lib.hid e2
    clear e2 hx
    go_enter Try.func19, Try.ntmps19
    go_wp2
    go_ret
    exact ⟨ret_int (by rw [H.out]; exact E2.out), rfl⟩
  · have H : Hid (zagI x = ((x / 2 : Nat) : Int)) := Lib.hid (by unfold zagI; rw [if_neg hx])
    have e1 : bits .and .u64 (x : Int) 1 = 0 := by rw [Lib.u64_and1 _ (by omega) (by omega)]; omega
    clear hx
    go_enter Try.func19, Try.ntmps19
    go_wp2
    go_ret
    exact ⟨ret_int (by rw [H.out]; omega), rfl⟩
end Go.Proofs.Ytlfnefgcndhomaa
