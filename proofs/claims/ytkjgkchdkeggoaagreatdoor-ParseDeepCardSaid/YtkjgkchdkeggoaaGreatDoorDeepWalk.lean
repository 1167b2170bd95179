/-
  The law's walk, as the row's frame calls it.
-/
import Derived.Test.YtkjgkchdkeggoaaGreatDoorDeep
import Derived.Test.YtkjgkchdkeggoaaGreatDoorLaid
namespace Go.Proofs.YtkjgkchdkeggoaaGreatDoor
open Go.RowKit
set_option linter.unusedVariables false

theorem parseDeep_walk {p q : Prop} (kind n : Int) (W : World) (hp : p) (hq : q) (hkw : Kw W) : Calls Tryz.prog 5 #[.int .i64 kind, .int .i64 n] W fun e w' => e = .returned (.bool true) ∧ Below W.heap.size W w' := deep_any kind n W hkw
end Go.Proofs.YtkjgkchdkeggoaaGreatDoor
