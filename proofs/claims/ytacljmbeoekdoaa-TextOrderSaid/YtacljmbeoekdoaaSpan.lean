/-
  The small functions over spans: Holds and Meets answer as integers say; nothing that was there before is written.
-/
import Derived.Test.YtacljmbeoekdoaaRows
import Derived.WalkKit
import Derived.Below
namespace Go.Proofs.Ytacljmbeoekdoaa
open Go.RowKit

theorem ret_bool {a b : Bool} (h : a = b) : Ending.returned (.bool a) = .returned (.bool b) := by rw [h]
def holdsB (a b c d : Int) : Bool := decide (a ≤ c) && decide (d ≤ b)
def meetsB (a b c d : Int) : Bool := decide (max a c < min b d)

theorem holds_any (a b c d : Int) (w : World) :
    Calls Try.prog 12 #[.agg #[.int .i64 a, .int .i64 b], .agg #[.int .i64 c, .int .i64 d]] w fun e w' => e = .returned (.bool (holdsB a b c d)) ∧ Below w.heap.size w w' := by
  by_cases h1 : a ≤ c <;> by_cases h2 : d ≤ b
  all_goals
    go_enter Try.func12, Try.ntmps12
    go_wp2
    go_ret
    refine ⟨by simp [holdsB, h1, h2], ?_⟩
    exact ((Below.refl _ _).alloc (Nat.le_refl _) _).alloc (by simp) _

theorem meets_any (a b c d : Int) (w : World) :
    Calls Try.prog 13 #[.agg #[.int .i64 a, .int .i64 b], .agg #[.int .i64 c, .int .i64 d]] w fun e w' => e = .returned (.bool (meetsB a b c d)) ∧ Below w.heap.size w w' := by
  go_enter Try.func13, Try.ntmps13
  go_wp2
  all_goals
    go_ret
    refine ⟨ret_bool (by unfold meetsB; rw [Bool.eq_iff_iff]; simp only [decide_eq_true_eq]; omega), ?_⟩
    exact ((Below.refl _ _).alloc (Nat.le_refl _) _).alloc (by simp) _
end Go.Proofs.Ytacljmbeoekdoaa
