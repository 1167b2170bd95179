/-
  The walk of TextParts: for any text and any two spans it returns true, and nothing that was there before is written.
-/
import Derived.Test.YtacljmbeoekdoaaPart
import Derived.Test.YtacljmbeoekdoaaCover
import Derived.Lib.QuietBelow
import Derived.BigQuiet
import Derived.Lib.MinMax
import Derived.Deep.DeepCutAuto
namespace Go.Proofs.Ytacljmbeoekdoaa
open Go.RowKit
open Go.Sort (grow)
set_option linter.unusedVariables false

theorem parts_long (s : ByteArray) (a b c d : Int) (w : World) (h : 3000 < s.size) :
    Calls Try.prog 3 #[.string s, .agg #[.int .i64 a, .int .i64 b], .agg #[.int .i64 c, .int .i64 d]] w fun e w' => e = .returned (.bool true) ∧ Below w.heap.size w w' := by
  have h' : (3000 : Int) < (s.size : Int) := by omega
  go_enter Try.func3, Try.ntmps3
  go_wp2_with (go_at_call 6; refine (alive_any _).mono ?_; rintro e w1 ⟨rfl, hb1⟩)
  go_ret
  exact ⟨rfl, Below.on (by go_grown) (by simp; omega) hb1⟩

theorem val_bool {a b : Bool} (h : a = b) : Value.bool a = Value.bool b := by rw [h]
theorem holds_dec {a b c d : Int} (h : a ≤ c) : holdsB a b c d = decide (d ≤ b) := by simp only [holdsB, h, decide_true, Bool.true_and]
theorem holds_nok {a b c d : Int} (h : ¬ a ≤ c) : holdsB a b c d = false := by simp only [holdsB, h, decide_false, Bool.false_and]
theorem meets_no {a b c d : Int} (h : ¬ max a c < min b d) : false = meetsB a b c d := by simp only [meetsB, h, decide_false]
theorem meets_is {a b c d : Int} {p : Prop} [Decidable p] (h : p ↔ max a c < min b d) : decide p = meetsB a b c d := by simp only [meetsB, h]
/-- The two cells of each span, in whatever world has blocks behind those of w. -/
theorem From.held {N : Nat} {W0 w : World} (h : From N W0 w) {b o : Nat} {v : Value} (hb : b < N) (hv : W0.cell? ⟨b, o, none⟩ = some v) : w.cell? ⟨b, o, none⟩ = some v :=
  (h.cells.1 b o hb).trans hv
end Go.Proofs.Ytacljmbeoekdoaa
