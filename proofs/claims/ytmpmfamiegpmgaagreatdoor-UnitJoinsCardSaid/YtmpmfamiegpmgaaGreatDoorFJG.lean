/-
  UnitJoins: closed facts of its row and of its function.; UnitJoins: its row holds.
-/
import Derived.Test.YtmpmfamiegpmgaaGreatDoorRows
import Derived.JoinedOf
import Derived.Stop.Joined
import Derived.KernelRfl
import Derived.SevenTiedAt
import Derived.Test.YtmpmfamiegpmgaaGreatDoorFJE
import Derived.Test.YtmpmfamiegpmgaaGreatDoorFJF
import Derived.Test.YtmpmfamiegpmgaaGreatDoorFJD
import Derived.ProofKit
import Derived.OpenShut
import Derived.ShutString
import Derived.ChangeOld
import Derived.Below
import Derived.Carry
import Derived.Lib.SmallJoins
import Derived.Deep.SlicePairs
import Derived.Deep.RegionHeld
import Derived.Test.YtmpmfamiegpmgaaGreatDoorTie
import Derived.Test.YtmpmfamiegpmgaaGreatDoorCards
import Derived.LaidMore
namespace Go.Proofs.YtmpmfamiegpmgaaGreatDoor
open Go
theorem uY:Tryz.pinned.checked.prog.funcNamed Rows.unitJoinsRow.func=some 15:=by kernel_rfl
theorem DD:Tryz.f15.isInstance Tryz.pinned.checked.prog Rows.unitJoinsRow.origin Rows.unitJoinsRow.targs:=of_decide_eq_true (by kernel_rfl)
theorem CJ:Tryz.f15.isWrapper Tryz.pinned.checked.prog Rows.unitJoinsRow.wrapper Rows.unitJoinsRow.mainSum:=by unfold Func.isWrapper; first | (rw [if_pos (by decide +kernel)]; kernel_rfl) | (rw [if_neg (by decide +kernel)]; exact ⟨rfl,rfl⟩)
theorem unitJoins_e : true = Tryz.pinned.checked.prog.looks [] := by kernel_rfl
theorem unitJoins_f : false = Rows.unitJoinsRow.goesBy Tryz.pinned.checked.prog := by kernel_rfl
theorem unitJoins_g : Rows.unitJoinsRow.wfByText (OpenSpec.ofChange Rows.unitJoinsSpec) = true := by kernel_rfl
theorem unitJoins_h : Tryz.pinned.checked.prog.mainIs = some ((true, "b87bf66dfac5270c51634b817e79980e0e8c8d59cef80d3acc12d43b6dd891cf").1, (true, "b87bf66dfac5270c51634b817e79980e0e8c8d59cef80d3acc12d43b6dd891cf").2.toList) := by kernel_rfl
theorem unitJoins_i : ([61, 3].all fun u => !Tryz.prog.wantsStandIn u) = true := by kernel_rfl
namespace unitJoinsDone
open Go.ChangeShapes Go.WideShapes Go.ChangeAt Go.RowKit
set_option linter.unusedVariables false
theorem over:Rows.unitJoinsRow.holds Tryz.pinned (OpenSpec.ofChange Rows.unitJoinsSpec) :=
 OpenClaim.holds_of_wide 15 Tryz.f15 rfl rfl rfl rfl rfl rfl rfl ⟨rfl,rfl,rfl,rfl,rfl⟩ rfl rfl rfl rfl rfl uY Tryz.func15 Ef
  DD CJ
  (fun os started H enc _=>lifted os started H enc)
end unitJoinsDone
end Go.Proofs.YtmpmfamiegpmgaaGreatDoor
