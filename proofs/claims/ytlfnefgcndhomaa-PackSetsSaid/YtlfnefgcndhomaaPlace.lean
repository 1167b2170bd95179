/-
  Place and Parts: three numbers in one word.
-/
import Derived.Test.YtlfnefgcndhomaaBase
namespace Go.Proofs.Ytlfnefgcndhomaa
open Go.RowKit
set_option linter.unusedVariables false

theorem ret_two {k k' : IntKind} {a b c d : Int} (h : a = b) (g : c = d) : Ending.returned (.tuple #[.int k a, .int k' c]) = .returned (.tuple #[.int k b, .int k' d]) := by rw [h, g]
theorem ret_three {k k' k'' : IntKind} {a b c d e f : Int} (h : a = b) (g : c = d) (i : e = f) : Ending.returned (.tuple #[.int k a, .int k' c, .int k'' e]) = .returned (.tuple #[.int k b, .int k' d, .int k'' f]) := by rw [h, g, i]
/-- Two words that share no bit: joined they are added. -/
theorem or_add (i x y : Nat) (hx : x % 2 ^ i = 0) (hy : y < 2 ^ i) (h1 : x < 18446744073709551616) (h2 : y < 18446744073709551616) : bits .or .u64 (x : Int) (y : Int) = ((x + y : Nat) : Int) := by
  rw [u64_or_nat x y h1 h2, nat_join i x y hx hy]

theorem place_yes (f a l : Nat) (w : World) (hf : f < 65536) (ha : a < 16777216) (hl : l < 16777216) :
    Calls Try.prog 10 #[.int .i64 f, .int .i64 a, .int .i64 l] w fun e w' => e = .returned (.tuple #[.int .u64 (((f * 16777216 + a) * 16777216 + l : Nat) : Int), .int .i64 0]) ∧ w = w' := by
  have b1 : bits .or .u64 ((f : Int) * 281474976710656) ((a : Int) * 16777216) = ((f * 281474976710656 + a * 16777216 : Nat) : Int) := or_add 48 (f * 281474976710656) (a * 16777216) (by omega) (by omega) (by omega) (by omega)
  have b2 : bits .or .u64 ((f * 281474976710656 + a * 16777216 : Nat) : Int) (l : Int) = ((f * 281474976710656 + a * 16777216 + l : Nat) : Int) := or_add 24 _ l (by omega) (by omega) (by omega) (by omega)
  have H : Hid (bits .or .u64 (bits .or .u64 ((f : Int) * 281474976710656) ((a : Int) * 16777216)) (l : Int) = (((f * 16777216 + a) * 16777216 + l : Nat) : Int)) := Lib.hid (by rw [b1, b2]; omega)
  clear b1 b2
  go_enter Try.func10, Try.ntmps10
  go_wp2_with (go_at_call 38; refine (within_yes _ _ _ (by omega) (by omega)).mono ?_; rintro e w' ⟨rfl, rfl⟩)
  go_ret2
  exact ⟨ret_two H.out rfl, rfl⟩
theorem place_no (f a l : Int) (w : World) (h : ¬ (withinB f 65535 = true ∧ withinB a 16777215 = true ∧ withinB l 16777215 = true)) :
    Calls Try.prog 10 #[.int .i64 f, .int .i64 a, .int .i64 l] w fun e w' => e = .returned (.tuple #[.int .u64 0, .int .i64 2]) ∧ w = w' := by
  by_cases h1 : 0 ≤ f ∧ f ≤ 65535
  · by_cases h2 : 0 ≤ a ∧ a ≤ 16777215
    · have h3 : ¬ (0 ≤ l ∧ l ≤ 16777215) := fun h3 => h ⟨by simp [withinB, h1], by simp [withinB, h2], by simp [withinB, h3]⟩
      clear h
      have c1 := fun w => within_yes f 65535 w h1.1 h1.2
      have c2 := fun w => within_yes a 16777215 w h2.1 h2.2
      have c3 := fun w => within_no l 16777215 w h3
      clear h1 h2 h3
      go_enter Try.func10, Try.ntmps10
      go_wp2_with fail
      refine (c1 _).mono ?_
      rintro e w' ⟨rfl, rfl⟩
      go_wp2_with fail
      refine (c2 _).mono ?_
      rintro e w' ⟨rfl, rfl⟩
      go_wp2_with fail
      refine (c3 _).mono ?_
      rintro e w' ⟨rfl, rfl⟩
      go_wp2_with fail
      go_ret2
      exact ⟨rfl, rfl⟩
    · clear h
      have c1 := fun w => within_yes f 65535 w h1.1 h1.2
      have c2 := fun w => within_no a 16777215 w h2
      clear h1 h2
      go_enter Try.func10, Try.ntmps10
      go_wp2_with fail
      refine (c1 _).mono ?_
      rintro e w' ⟨rfl, rfl⟩
      go_wp2_with fail
      refine (c2 _).mono ?_
      rintro e w' ⟨rfl, rfl⟩
      go_wp2_with fail
      go_ret2
      exact ⟨rfl, rfl⟩
  · clear h
    have c1 := fun w => within_no f 65535 w h1
    clear h1
    go_enter Try.func10, Try.ntmps10
    go_wp2_with fail
    refine (c1 _).mono ?_
    rintro e w' ⟨rfl, rfl⟩
    go_wp2_with fail
    go_ret2
    exact ⟨rfl, rfl⟩
theorem parts_any (x : Nat) (w : World) (hx : x < 18446744073709551616) :
    Calls Try.prog 13 #[.int .u64 x] w fun e w' => e = .returned (.tuple #[.int .i64 ((x / 281474976710656 : Nat) : Int), .int .i64 ((x / 16777216 % 16777216 : Nat) : Int), .int .i64 ((x % 16777216 : Nat) : Int)]) ∧ w = w' := by
  have m1 : bits .and .u64 ((x / 16777216 : Nat) : Int) 16777215 = ((x / 16777216 % 16777216 : Nat) : Int) := by
    rw [show (16777215 : Int) = ((16777215 : Nat) : Int) from rfl, u64_and_nat _ _ (by omega) (by omega), nat_mask24]
  have m2 : bits .and .u64 (x : Int) 16777215 = ((x % 16777216 : Nat) : Int) := by
    rw [show (16777215 : Int) = ((16777215 : Nat) : Int) from rfl, u64_and_nat _ _ hx (by omega), nat_mask24]
  have e1 : bits .and .u64 ((x : Int) / 16777216) 16777215 = (x : Int) / 16777216 % 16777216 := by
    rw [show (x : Int) / 16777216 = ((x / 16777216 : Nat) : Int) by omega, m1]; omega
  have e2 : bits .and .u64 (x : Int) 16777215 = (x : Int) % 16777216 := by rw [m2]; omega
  clear m1 m2
  go_enter Try.func13, Try.ntmps13
  go_wp2
  go_ret3
  exact ⟨ret_three (by omega) (by omega) (by omega), rfl⟩
end Go.Proofs.Ytlfnefgcndhomaa
