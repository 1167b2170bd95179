/-
  The walk of PackPlaces: all together.
-/
import Derived.Test.YtlfnefgcndhomaaPackPlacesB
import Derived.Test.YtlfnefgcndhomaaPackPlacesC
namespace Go.Proofs.Ytlfnefgcndhomaa
open Go.RowKit
set_option linter.unusedVariables false

theorem packPlaces_both (x y z x' y' z' N M : Int) (w : World) (h0 : 0 ≤ x) (h1 : x < 65536) (h2 : 0 ≤ y) (h3 : y < 16777216) (h4 : 0 ≤ z) (h5 : z < 16777216) (h0' : 0 ≤ x') (h1' : x' < 65536) (h2' : 0 ≤ y') (h3' : y' < 16777216) (h4' : 0 ≤ z') (h5' : z' < 16777216) (hF : PlaceFacts x y z N) (hG : PlaceFacts x' y' z' M)
    (hN : N = (x * 16777216 + y) * 16777216 + z) (hM : M = (x' * 16777216 + y') * 16777216 + z') :
    Calls Try.prog 3 #[.agg #[.int .i64 x, .int .i64 y, .int .i64 z], .agg #[.int .i64 x', .int .i64 y', .int .i64 z']] w fun e w' => e = .returned (.bool true) ∧ Below w.heap.size w w' := by
  have H2 := hG.place
  have E := fun w => eq22 x y z x' y' z' w
  have hcase : x < x' ∨ x' < x ∨ (x = x' ∧ y < y') ∨ (x = x' ∧ y' < y) ∨ (x = x' ∧ y = y' ∧ z < z') ∨ (x = x' ∧ y = y' ∧ z' < z) ∨ (x = x' ∧ y = y' ∧ z = z') := by omega
  have nb : ∀ {a b : Int}, a ≠ b → (a == b) = false := fun h => beq_eq_false_iff_ne.2 h
  have eb : ∀ {a b : Int}, a = b → (a == b) = true := fun h => beq_iff_eq.2 h
  rcases hcase with c1 | c1 | ⟨c1, c2⟩ | ⟨c1, c2⟩ | ⟨c1, c2, c3⟩ | ⟨c1, c2, c3⟩ | ⟨c1, c2, c3⟩
  · exact packPlaces_lt0 x y z x' y' z' N M w h0 h1 h2 h3 h4 h5 hF H2 c1 (by omega) (nb (by omega)) (fun w => by rw [E w, nb (by omega), Bool.false_and])
  · exact packPlaces_gt0 x y z x' y' z' N M w h0 h1 h2 h3 h4 h5 hF H2 c1 (nb (by omega)) (by omega) (nb (by omega)) (fun w => by rw [E w, nb (by omega), Bool.false_and])
  · exact packPlaces_lt1 x y z x' y' z' N M w h0 h1 h2 h3 h4 h5 hF H2 (by omega) (eb c1) c2 (by omega) (nb (by omega)) (fun w => by rw [E w, eb c1, nb (show y ≠ y' by omega), Bool.false_and, Bool.and_false])
  · exact packPlaces_gt1 x y z x' y' z' N M w h0 h1 h2 h3 h4 h5 hF H2 (by omega) (eb c1) c2 (nb (by omega)) (by omega) (nb (by omega)) (fun w => by rw [E w, eb c1, nb (show y ≠ y' by omega), Bool.false_and, Bool.and_false])
  · exact packPlaces_lt2 x y z x' y' z' N M w h0 h1 h2 h3 h4 h5 hF H2 (by omega) (eb c1) (by omega) (eb c2) c3 (by omega) (nb (by omega)) (fun w => by rw [E w, eb c1, eb c2, nb (show z ≠ z' by omega), Bool.and_false, Bool.and_false])
  · exact packPlaces_gt2 x y z x' y' z' N M w h0 h1 h2 h3 h4 h5 hF H2 (by omega) (eb c1) (by omega) (eb c2) c3 (decide_eq_false (by omega)) (by omega) (nb (by omega)) (fun w => by rw [E w, eb c1, eb c2, nb (show z ≠ z' by omega), Bool.and_false, Bool.and_false])
  · exact packPlaces_eq2 x y z x' y' z' N M w h0 h1 h2 h3 h4 h5 hF H2 (by omega) (eb c1) (by omega) (eb c2) (by omega) (decide_eq_false (by omega)) (by omega) (eb (by omega)) (fun w => by rw [E w, eb c1, eb c2, eb c3]; rfl)

theorem packPlaces_walk (x y z x' y' z' : Int) (w : World) (_ : -9223372036854775808 ≤ x ∧ x ≤ 9223372036854775807) (_ : -9223372036854775808 ≤ y ∧ y ≤ 9223372036854775807) (_ : -9223372036854775808 ≤ z ∧ z ≤ 9223372036854775807)
    (_ : -9223372036854775808 ≤ x' ∧ x' ≤ 9223372036854775807) (_ : -9223372036854775808 ≤ y' ∧ y' ≤ 9223372036854775807) (_ : -9223372036854775808 ≤ z' ∧ z' ≤ 9223372036854775807) :
    Calls Try.prog 3 #[.agg #[.int .i64 x, .int .i64 y, .int .i64 z], .agg #[.int .i64 x', .int .i64 y', .int .i64 z']] w fun e w' => e = .returned (.bool true) ∧ Below w.heap.size w w' := by
  cases h : isB x y z with
  | false => exact packPlaces_no x y z x' y' z' w h
  | true =>
    have h2 := of_decide_eq_true h
    have hF := placeFacts x y z _ h2.1 h2.2.1 h2.2.2.1 h2.2.2.2.1 h2.2.2.2.2.1 h2.2.2.2.2.2 rfl
    cases h' : isB x' y' z' with
    | false => exact packPlaces_yes x y z _ x' y' z' w h2.1 h2.2.1 h2.2.2.1 h2.2.2.2.1 h2.2.2.2.2.1 h2.2.2.2.2.2 hF h'
    | true =>
      have h3 := of_decide_eq_true h'
      have hG := placeFacts x' y' z' _ h3.1 h3.2.1 h3.2.2.1 h3.2.2.2.1 h3.2.2.2.2.1 h3.2.2.2.2.2 rfl
      exact packPlaces_both x y z x' y' z' _ _ w h2.1 h2.2.1 h2.2.2.1 h2.2.2.2.1 h2.2.2.2.2.1 h2.2.2.2.2.2 h3.1 h3.2.1 h3.2.2.1 h3.2.2.2.1 h3.2.2.2.2.1 h3.2.2.2.2.2 hF hG rfl rfl
end Go.Proofs.Ytlfnefgcndhomaa
