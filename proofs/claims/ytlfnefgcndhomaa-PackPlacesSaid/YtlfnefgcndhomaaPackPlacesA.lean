/-
  The walk of PackPlaces.
-/
import Derived.Test.YtlfnefgcndhomaaAlive
import Derived.ChangeKeysEq
namespace Go.Proofs.Ytlfnefgcndhomaa
open Go.RowKit
set_option linter.unusedVariables false

def isB (f a l : Int) : Bool := decide (0 ≤ f ∧ f < 65536 ∧ 0 ≤ a ∧ a < 16777216 ∧ 0 ≤ l ∧ l < 16777216)
def placeN (f a l : Int) : Nat := bif isB f a l then ((f.toNat * 16777216 + a.toNat) * 16777216 + l.toNat) else 0
def placeE (f a l : Int) : Int := bif isB f a l then 0 else 2
theorem place_any (f a l : Int) (w : World) :
    Calls Try.prog 10 #[.int .i64 f, .int .i64 a, .int .i64 l] w fun e w' => e = .returned (.tuple #[.int .u64 (placeN f a l : Nat), .int .i64 (placeE f a l)]) ∧ w = w' := by
  cases h : isB f a l with
  | true =>
    have h2 := of_decide_eq_true h
    have := place_yes f.toNat a.toNat l.toNat w (by omega) (by omega) (by omega)
    rw [show ((f.toNat : Nat) : Int) = f by omega, show ((a.toNat : Nat) : Int) = a by omega, show ((l.toNat : Nat) : Int) = l by omega] at this
    refine this.mono ?_
    rintro e w' ⟨rfl, rfl⟩
    exact ⟨ret_two (by unfold placeN; rw [h]; rfl) (by unfold placeE; rw [h]; rfl), rfl⟩
  | false =>
    have h2 := of_decide_eq_false h
    refine (place_no f a l w (fun g => h2 ?_)).mono ?_
    · simp [withinB] at g; omega
    · rintro e w' ⟨rfl, rfl⟩
      exact ⟨ret_two (by unfold placeN; rw [h]; rfl) (by unfold placeE; rw [h]; rfl), rfl⟩

set_option maxRecDepth 100000 in
set_option maxHeartbeats 2000000 in
theorem packPlaces_no (x y z x' y' z' : Int) (w : World) (h : isB x y z = false) :
    Calls Try.prog 3 #[.agg #[.int .i64 x, .int .i64 y, .int .i64 z], .agg #[.int .i64 x', .int .i64 y', .int .i64 z']] w fun e w' => e = .returned (.bool true) ∧ Below w.heap.size w w' := by
  have H1 : ∀ w, Calls Try.prog 10 #[.int .i64 x, .int .i64 y, .int .i64 z] w fun e w' => e = .returned (.tuple #[.int .u64 0, .int .i64 2]) ∧ w = w' := fun w => by
    refine (place_any x y z w).mono ?_
    rintro e w' ⟨rfl, rfl⟩
    exact ⟨ret_two (by unfold placeN; rw [h]; rfl) (by unfold placeE; rw [h]; rfl), rfl⟩
  have H2 := fun w => place_any x' y' z' w
  generalize placeN x' y' z' = Y at *
  generalize placeE x' y' z' = E at *
  have hno := of_decide_eq_false h
  have hcase : x < 0 ∨ (0 ≤ x ∧ 65536 ≤ x) ∨ (0 ≤ x ∧ x < 65536 ∧ y < 0) ∨ (0 ≤ x ∧ x < 65536 ∧ 0 ≤ y ∧ 16777216 ≤ y) ∨ (0 ≤ x ∧ x < 65536 ∧ 0 ≤ y ∧ y < 16777216 ∧ z < 0) ∨ (0 ≤ x ∧ x < 65536 ∧ 0 ≤ y ∧ y < 16777216 ∧ 0 ≤ z ∧ 16777216 ≤ z) := by omega
  clear hno h
  rcases hcase with h0 | ⟨h0, h1⟩ | ⟨h0, h1, h2⟩ | ⟨h0, h1, h2, h3⟩ | ⟨h0, h1, h2, h3, h4⟩ | ⟨h0, h1, h2, h3, h4, h5⟩
  all_goals
    first
      | have hd : decide (z < 16777216) = false := decide_eq_false (by omega)
      | skip
    go_enter Try.func3, Try.ntmps3
    go_wp2_with fail
    refine (H1 _).mono ?_
    rintro e w1 ⟨rfl, rfl⟩
    go_wp2_with fail
    refine (H2 _).mono ?_
    rintro e w1 ⟨rfl, rfl⟩
    go_wp2_with (first | (go_at_call 11; refine (no_any _ _).mono ?_; rintro e w1 ⟨rfl, rfl⟩) | (go_at_call 12; refine (alive_any _).mono ?_; rintro e w1 ⟨rfl, hb⟩))
    go_ret
    exact ⟨rfl, (((Below.refl _ w).alloc (Nat.le_refl _) _).alloc (by simp) _).trans (hb.mono (by simp; omega))⟩

/-- What is known of one place that can be packed. -/
structure PlaceFacts (x y z N : Int) : Prop where
  place : ∀ w, Calls Try.prog 10 #[.int .i64 x, .int .i64 y, .int .i64 z] w fun e w' => e = .returned (.tuple #[.int .u64 N, .int .i64 0]) ∧ w = w'
  parts : ∀ w, Calls Try.prog 13 #[.int .u64 N] w fun e w' => e = .returned (.tuple #[.int .i64 x, .int .i64 y, .int .i64 z]) ∧ w = w'
  eq : (N == ((x * 16777216 + y) * 16777216 + z)) = true
  ne : (N != ((x * 16777216 + y) * 16777216 + z)) = false
theorem placeFacts (x y z N : Int) (h0 : 0 ≤ x) (h1 : x < 65536) (h2 : 0 ≤ y) (h3 : y < 16777216) (h4 : 0 ≤ z) (h5 : z < 16777216) (hN : N = (x * 16777216 + y) * 16777216 + z) : PlaceFacts x y z N := by
  obtain ⟨a, rfl⟩ : ∃ a : Nat, x = (a : Int) := ⟨x.toNat, by omega⟩
  obtain ⟨b, rfl⟩ : ∃ a : Nat, y = (a : Int) := ⟨y.toNat, by omega⟩
  obtain ⟨c, rfl⟩ : ∃ a : Nat, z = (a : Int) := ⟨z.toNat, by omega⟩
  have hX : (a * 16777216 + b) * 16777216 + c < 18446744073709551616 := by omega
  have hN2 : N = (((a * 16777216 + b) * 16777216 + c : Nat) : Int) := by omega
  have he : (N == (((a : Int) * 16777216 + b) * 16777216 + c)) = true := by rw [beq_iff_eq]; omega
  refine ⟨fun w => ?_, fun w => ?_, he, by rw [bne, he]; rfl⟩
  · rw [hN2]; exact place_yes a b c w (by omega) (by omega) (by omega)
  · rw [hN2]
    refine (parts_any _ w hX).mono ?_
    rintro e w' ⟨rfl, rfl⟩
    exact ⟨ret_three (by omega) (by omega) (by omega), rfl⟩

set_option maxRecDepth 100000 in
set_option maxHeartbeats 2000000 in
theorem packPlaces_yes (x y z N : Int) (x' y' z' : Int) (w : World) (h0 : 0 ≤ x) (h1 : x < 65536) (h2 : 0 ≤ y) (h3 : y < 16777216) (h4 : 0 ≤ z) (h5 : z < 16777216) (hF : PlaceFacts x y z N) (hy : isB x' y' z' = false) :
    Calls Try.prog 3 #[.agg #[.int .i64 x, .int .i64 y, .int .i64 z], .agg #[.int .i64 x', .int .i64 y', .int .i64 z']] w fun e w' => e = .returned (.bool true) ∧ Below w.heap.size w w' := by
  obtain ⟨H1, H3, hXX, hXY⟩ := hF
  have H2 : ∀ w, Calls Try.prog 10 #[.int .i64 x', .int .i64 y', .int .i64 z'] w fun e w' => e = .returned (.tuple #[.int .u64 0, .int .i64 2]) ∧ w = w' := fun w => by
    refine (place_any x' y' z' w).mono ?_
    rintro e w' ⟨rfl, rfl⟩
    exact ⟨ret_two (by unfold placeN; rw [hy]; rfl) (by unfold placeE; rw [hy]; rfl), rfl⟩
  clear hy
  go_enter Try.func3, Try.ntmps3
  go_wp2_with fail
  refine (H1 _).mono ?_
  rintro e w1 ⟨rfl, rfl⟩
  go_wp2_with fail
  refine (H2 _).mono ?_
  rintro e w1 ⟨rfl, rfl⟩
  go_wp2_with (first | (go_at_call 11; refine (no_any _ _).mono ?_; rintro e w1 ⟨rfl, rfl⟩))
  refine (H3 _).mono ?_
  rintro e w1 ⟨rfl, rfl⟩
  go_wp2_with (first | (go_at_call 11; refine (no_any _ _).mono ?_; rintro e w1 ⟨rfl, rfl⟩) | (go_at_call 12; refine (alive_any _).mono ?_; rintro e w1 ⟨rfl, hb⟩))
  go_ret
  exact ⟨rfl, (((Below.refl _ w).alloc (Nat.le_refl _) _).alloc (by simp) _).trans (hb.mono (by simp; omega))⟩

theorem eq22 (x y z x' y' z' : Int) (w : World) : (Op.equalIn 10000 22 (.agg #[.int .i64 x, .int .i64 y, .int .i64 z]) (.agg #[.int .i64 x', .int .i64 y', .int .i64 z'])).run Try.prog w = .ok (x == x' && (y == y' && z == z')) w := by
  obtain ⟨i0, hi0, hy0, hy1, hy2⟩ := info_parts info3
  have hc3 : Try.prog.cellsOf 3 = 1 := by kernel_rfl
  rw [run_equalIn_array w 9999 _ _ Try.underlying22 hi0, hc3]
  by_cases h0 : x = x'
  · by_cases h1 : y = y'
    · by_cases h2 : z = z'
      · simp [Op.eqItems, List.range, List.range.loop, go_sem, h0, h1, h2]
      · simp [Op.eqItems, List.range, List.range.loop, go_sem, h0, h1, h2]
    · simp [Op.eqItems, List.range, List.range.loop, go_sem, h0, h1]
  · simp [Op.eqItems, List.range, List.range.loop, go_sem, h0]
end Go.Proofs.Ytlfnefgcndhomaa
