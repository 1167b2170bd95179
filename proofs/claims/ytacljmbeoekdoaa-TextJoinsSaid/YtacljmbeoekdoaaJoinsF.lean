/-
  The walk of TextJoins: the text, or the list, is too long.
-/
import Derived.Test.YtacljmbeoekdoaaSeen
import Derived.Lib.QuietBelow
import Derived.BigQuiet
import Derived.Deep.LoopGhost
import Derived.Deep.DeepCutAuto
namespace Go.Proofs.Ytacljmbeoekdoaa
open Go.RowKit
open Go.Sort (grow)
set_option linter.unusedVariables false
theorem joins_long (w : World) (s : ByteArray) (a b c : Int) (p : Option Addr) (n cap : Nat) (h : 1000 < (s.size : Int)) :
    Calls Try.prog 4 #[.string s, .int .i64 a, .int .i64 b, .int .i64 c, .slice p n cap] w fun e w' => e = .returned (.bool true) ∧ Below w.heap.size w w' := by
  go_enter Try.func4, Try.ntmps4
  go_wp2_with (go_at_call 6; refine (alive_any _).mono ?_; rintro e w5 ⟨rfl, hb5⟩)
  go_ret
  exact ⟨rfl, hb5⟩
theorem joins_many (w : World) (s : ByteArray) (a b c : Int) (p : Option Addr) (n cap : Nat) (h : (s.size : Int) ≤ 1000) (hn : 100 < (n : Int)) :
    Calls Try.prog 4 #[.string s, .int .i64 a, .int .i64 b, .int .i64 c, .slice p n cap] w fun e w' => e = .returned (.bool true) ∧ Below w.heap.size w w' := by
  go_enter Try.func4, Try.ntmps4
  go_wp2_with (go_at_call 6; refine (alive_any _).mono ?_; rintro e w5 ⟨rfl, hb5⟩)
  go_ret
  exact ⟨rfl, hb5⟩
end Go.Proofs.Ytacljmbeoekdoaa
