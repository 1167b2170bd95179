/-
  The walk of PackPlaces: two places, the further parts.
-/
import Derived.Test.YtlfnefgcndhomaaPackPlacesA
namespace Go.Proofs.Ytlfnefgcndhomaa
open Go.RowKit
set_option linter.unusedVariables false

set_option maxRecDepth 100000 in
set_option maxHeartbeats 4000000 in
theorem packPlaces_gt1 (x y z x' y' z' N M : Int) (w : World) (h0 : 0 ≤ x) (h1 : x < 65536) (h2 : 0 ≤ y) (h3 : y < 16777216) (h4 : 0 ≤ z) (h5 : z < 16777216) (hF : PlaceFacts x y z N) (H2 : ∀ w, Calls Try.prog 10 #[.int .i64 x', .int .i64 y', .int .i64 z'] w fun e w' => e = .returned (.tuple #[.int .u64 M, .int .i64 0]) ∧ w = w')
    (c0 : x' ≤ x) (c2 : (x == x') = true) (c3 : y' < y) (c4 : (y == y') = false) (d1 : M < N) (d2 : (N == M) = false) (E : ∀ w', (Op.equalIn 10000 22 (.agg #[.int .i64 x, .int .i64 y, .int .i64 z]) (.agg #[.int .i64 x', .int .i64 y', .int .i64 z'])).run Try.prog w' = .ok false w') :
    Calls Try.prog 3 #[.agg #[.int .i64 x, .int .i64 y, .int .i64 z], .agg #[.int .i64 x', .int .i64 y', .int .i64 z']] w fun e w' => e = .returned (.bool true) ∧ Below w.heap.size w w' := by
  obtain ⟨H1, H3, hXX, hXY⟩ := hF
  have q1 : decide (N < M) = false := decide_eq_false (by omega)
  have q2 : decide (x < x') = false := decide_eq_false (by omega)
  have q3 : decide (y < y') = false := decide_eq_false (by omega)
  go_enter Try.func3, Try.ntmps3
  go_wp2_with fail
  refine (H1 _).mono ?_
  rintro e w1 ⟨rfl, rfl⟩
  go_wp2_with fail
  refine (H2 _).mono ?_
  rintro e w1 ⟨rfl, rfl⟩
  go_wp2_with (first | (go_at_call 11; refine (no_any _ _).mono ?_; rintro e w1 ⟨rfl, rfl⟩))
  refine (H3 _).mono ?_
  rintro e w1 ⟨rfl, rfl⟩
  go_wp2_with (first | (go_at_call 11; refine (no_any _ _).mono ?_; rintro e w1 ⟨rfl, rfl⟩) | (go_at_call 12; refine (alive_any _).mono ?_; rintro e w1 ⟨rfl, hb⟩))
  go_ret
  exact ⟨rfl, (((Below.refl _ w).alloc (Nat.le_refl _) _).alloc (by simp) _).trans (hb.mono (by simp; omega))⟩

set_option maxRecDepth 100000 in
set_option maxHeartbeats 4000000 in
theorem packPlaces_lt2 (x y z x' y' z' N M : Int) (w : World) (h0 : 0 ≤ x) (h1 : x < 65536) (h2 : 0 ≤ y) (h3 : y < 16777216) (h4 : 0 ≤ z) (h5 : z < 16777216) (hF : PlaceFacts x y z N) (H2 : ∀ w, Calls Try.prog 10 #[.int .i64 x', .int .i64 y', .int .i64 z'] w fun e w' => e = .returned (.tuple #[.int .u64 M, .int .i64 0]) ∧ w = w')
    (c0 : x' ≤ x) (c2 : (x == x') = true) (c3 : y' ≤ y) (c4 : (y == y') = true) (c5 : z < z') (d1 : N < M) (d2 : (N == M) = false) (E : ∀ w', (Op.equalIn 10000 22 (.agg #[.int .i64 x, .int .i64 y, .int .i64 z]) (.agg #[.int .i64 x', .int .i64 y', .int .i64 z'])).run Try.prog w' = .ok false w') :
    Calls Try.prog 3 #[.agg #[.int .i64 x, .int .i64 y, .int .i64 z], .agg #[.int .i64 x', .int .i64 y', .int .i64 z']] w fun e w' => e = .returned (.bool true) ∧ Below w.heap.size w w' := by
  obtain ⟨H1, H3, hXX, hXY⟩ := hF
  go_enter Try.func3, Try.ntmps3
  go_wp2_with fail
  refine (H1 _).mono ?_
  rintro e w1 ⟨rfl, rfl⟩
  go_wp2_with fail
  refine (H2 _).mono ?_
  rintro e w1 ⟨rfl, rfl⟩
  go_wp2_with (first | (go_at_call 11; refine (no_any _ _).mono ?_; rintro e w1 ⟨rfl, rfl⟩))
  refine (H3 _).mono ?_
  rintro e w1 ⟨rfl, rfl⟩
  go_wp2_with (first | (go_at_call 11; refine (no_any _ _).mono ?_; rintro e w1 ⟨rfl, rfl⟩) | (go_at_call 12; refine (alive_any _).mono ?_; rintro e w1 ⟨rfl, hb⟩))
  go_ret
  exact ⟨rfl, (((Below.refl _ w).alloc (Nat.le_refl _) _).alloc (by simp) _).trans (hb.mono (by simp; omega))⟩

set_option maxRecDepth 100000 in
set_option maxHeartbeats 4000000 in
theorem packPlaces_gt2 (x y z x' y' z' N M : Int) (w : World) (h0 : 0 ≤ x) (h1 : x < 65536) (h2 : 0 ≤ y) (h3 : y < 16777216) (h4 : 0 ≤ z) (h5 : z < 16777216) (hF : PlaceFacts x y z N) (H2 : ∀ w, Calls Try.prog 10 #[.int .i64 x', .int .i64 y', .int .i64 z'] w fun e w' => e = .returned (.tuple #[.int .u64 M, .int .i64 0]) ∧ w = w')
    (c0 : x' ≤ x) (c2 : (x == x') = true) (c3 : y' ≤ y) (c4 : (y == y') = true) (c5 : z' < z) (c6 : decide (z < z') = false) (d1 : M < N) (d2 : (N == M) = false) (E : ∀ w', (Op.equalIn 10000 22 (.agg #[.int .i64 x, .int .i64 y, .int .i64 z]) (.agg #[.int .i64 x', .int .i64 y', .int .i64 z'])).run Try.prog w' = .ok false w') :
    Calls Try.prog 3 #[.agg #[.int .i64 x, .int .i64 y, .int .i64 z], .agg #[.int .i64 x', .int .i64 y', .int .i64 z']] w fun e w' => e = .returned (.bool true) ∧ Below w.heap.size w w' := by
  obtain ⟨H1, H3, hXX, hXY⟩ := hF
  have q1 : decide (N < M) = false := decide_eq_false (by omega)
  have q2 : decide (x < x') = false := decide_eq_false (by omega)
  have q3 : decide (y < y') = false := decide_eq_false (by omega)
  go_enter Try.func3, Try.ntmps3
  go_wp2_with fail
  refine (H1 _).mono ?_
  rintro e w1 ⟨rfl, rfl⟩
  go_wp2_with fail
  refine (H2 _).mono ?_
  rintro e w1 ⟨rfl, rfl⟩
  go_wp2_with (first | (go_at_call 11; refine (no_any _ _).mono ?_; rintro e w1 ⟨rfl, rfl⟩))
  refine (H3 _).mono ?_
  rintro e w1 ⟨rfl, rfl⟩
  go_wp2_with (first | (go_at_call 11; refine (no_any _ _).mono ?_; rintro e w1 ⟨rfl, rfl⟩) | (go_at_call 12; refine (alive_any _).mono ?_; rintro e w1 ⟨rfl, hb⟩))
  go_ret
  exact ⟨rfl, (((Below.refl _ w).alloc (Nat.le_refl _) _).alloc (by simp) _).trans (hb.mono (by simp; omega))⟩

set_option maxRecDepth 100000 in
set_option maxHeartbeats 4000000 in
theorem packPlaces_eq2 (x y z x' y' z' N M : Int) (w : World) (h0 : 0 ≤ x) (h1 : x < 65536) (h2 : 0 ≤ y) (h3 : y < 16777216) (h4 : 0 ≤ z) (h5 : z < 16777216) (hF : PlaceFacts x y z N) (H2 : ∀ w, Calls Try.prog 10 #[.int .i64 x', .int .i64 y', .int .i64 z'] w fun e w' => e = .returned (.tuple #[.int .u64 M, .int .i64 0]) ∧ w = w')
    (c0 : x' ≤ x) (c2 : (x == x') = true) (c3 : y' ≤ y) (c4 : (y == y') = true) (c5 : z' ≤ z) (c6 : decide (z < z') = false) (d1 : M ≤ N) (d2 : (N == M) = true) (E : ∀ w', (Op.equalIn 10000 22 (.agg #[.int .i64 x, .int .i64 y, .int .i64 z]) (.agg #[.int .i64 x', .int .i64 y', .int .i64 z'])).run Try.prog w' = .ok true w') :
    Calls Try.prog 3 #[.agg #[.int .i64 x, .int .i64 y, .int .i64 z], .agg #[.int .i64 x', .int .i64 y', .int .i64 z']] w fun e w' => e = .returned (.bool true) ∧ Below w.heap.size w w' := by
  obtain ⟨H1, H3, hXX, hXY⟩ := hF
  have q1 : decide (N < M) = false := decide_eq_false (by omega)
  have q2 : decide (x < x') = false := decide_eq_false (by omega)
  have q3 : decide (y < y') = false := decide_eq_false (by omega)
  go_enter Try.func3, Try.ntmps3
  go_wp2_with fail
  refine (H1 _).mono ?_
  rintro e w1 ⟨rfl, rfl⟩
  go_wp2_with fail
  refine (H2 _).mono ?_
  rintro e w1 ⟨rfl, rfl⟩
  go_wp2_with (first | (go_at_call 11; refine (no_any _ _).mono ?_; rintro e w1 ⟨rfl, rfl⟩))
  refine (H3 _).mono ?_
  rintro e w1 ⟨rfl, rfl⟩
  go_wp2_with (first | (go_at_call 11; refine (no_any _ _).mono ?_; rintro e w1 ⟨rfl, rfl⟩) | (go_at_call 12; refine (alive_any _).mono ?_; rintro e w1 ⟨rfl, hb⟩))
  go_ret
  exact ⟨rfl, (((Below.refl _ w).alloc (Nat.le_refl _) _).alloc (by simp) _).trans (hb.mono (by simp; omega))⟩

end Go.Proofs.Ytlfnefgcndhomaa
