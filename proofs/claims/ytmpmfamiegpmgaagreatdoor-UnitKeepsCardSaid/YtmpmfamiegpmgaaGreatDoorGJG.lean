/-
  UnitKeeps: closed facts of its row and of its function.; UnitKeeps: its row holds.
-/
import Derived.Test.YtmpmfamiegpmgaaGreatDoorRows
import Derived.JoinedOf
import Derived.Stop.Joined
import Derived.KernelRfl
import Derived.SevenTiedAt
import Derived.Test.YtmpmfamiegpmgaaGreatDoorGJE
import Derived.Test.YtmpmfamiegpmgaaGreatDoorGJF
import Derived.Test.YtmpmfamiegpmgaaGreatDoorGJH
import Derived.ProofKit
import Derived.OpenShut
import Derived.ShutString
import Derived.ChangeOld
import Derived.Below
import Derived.Carry
import Derived.Lib.SmallJoins
import Derived.Deep.SlicePairs
import Derived.Deep.RegionHeld
import Derived.Test.YtmpmfamiegpmgaaGreatDoorGJD
import Derived.Test.YtmpmfamiegpmgaaGreatDoorTie
import Derived.Test.YtmpmfamiegpmgaaGreatDoorCards
import Derived.LaidMore
namespace Go.Proofs.YtmpmfamiegpmgaaGreatDoor
open Go
theorem uU:Tryz.pinned.checked.prog.funcNamed Rows.unitKeepsRow.func=some 12:=by kernel_rfl
theorem D5:Tryz.f12.isInstance Tryz.pinned.checked.prog Rows.unitKeepsRow.origin Rows.unitKeepsRow.targs:=of_decide_eq_true (by kernel_rfl)
theorem Ei:Tryz.f12.isWrapper Tryz.pinned.checked.prog Rows.unitKeepsRow.wrapper Rows.unitKeepsRow.mainSum:=by unfold Func.isWrapper; first | (rw [if_pos (by decide +kernel)]; kernel_rfl) | (rw [if_neg (by decide +kernel)]; exact ⟨rfl,rfl⟩)
theorem unitKeeps_e : true = Tryz.pinned.checked.prog.looks [] := by kernel_rfl
theorem unitKeeps_f : false = Rows.unitKeepsRow.goesBy Tryz.pinned.checked.prog := by kernel_rfl
theorem unitKeeps_g : Rows.unitKeepsRow.wfByText (OpenSpec.ofChange Rows.unitKeepsSpec) = true := by kernel_rfl
theorem unitKeeps_h : Tryz.pinned.checked.prog.mainIs = some ((true, "b87bf66dfac5270c51634b817e79980e0e8c8d59cef80d3acc12d43b6dd891cf").1, (true, "b87bf66dfac5270c51634b817e79980e0e8c8d59cef80d3acc12d43b6dd891cf").2.toList) := by kernel_rfl
theorem unitKeeps_i : ([61].all fun u => !Tryz.prog.wantsStandIn u) = true := by kernel_rfl
namespace unitKeepsDone
open Go.ChangeShapes Go.WideShapes Go.ChangeAt Go.RowKit
set_option linter.unusedVariables false
theorem over:Rows.unitKeepsRow.holds Tryz.pinned (OpenSpec.ofChange Rows.unitKeepsSpec) :=
 OpenClaim.holds_of_wide 12 Tryz.f12 rfl rfl rfl rfl rfl rfl rfl ⟨rfl,rfl,rfl,rfl,rfl⟩ rfl rfl rfl rfl rfl uU Tryz.func12 DU
  D5 Ei
  (fun os started H enc _=>lifted os started H enc)
end unitKeepsDone
end Go.Proofs.YtmpmfamiegpmgaaGreatDoor
