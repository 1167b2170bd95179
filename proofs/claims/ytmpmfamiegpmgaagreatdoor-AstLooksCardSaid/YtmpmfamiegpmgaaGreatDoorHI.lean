/-
  AstLooks: closed facts of its row and of its function.; AstLooks: its row holds.
-/
import Derived.Test.YtmpmfamiegpmgaaGreatDoorRows
import Derived.JoinedOf
import Derived.Stop.Joined
import Derived.KernelRfl
import Derived.SevenTiedAt
import Derived.Test.YtmpmfamiegpmgaaGreatDoorHG
import Derived.Test.YtmpmfamiegpmgaaGreatDoorHH
import Derived.ProofKit
import Derived.OpenShut
import Derived.ShutString
import Derived.ChangeOld
import Derived.Below
import Derived.Carry
import Derived.Lib.SmallJoins
import Derived.Deep.SlicePairs
import Derived.Deep.RegionHeld
import Derived.Test.YtmpmfamiegpmgaaGreatDoorHD
import Derived.Test.YtmpmfamiegpmgaaGreatDoorTie
import Derived.Test.YtmpmfamiegpmgaaGreatDoorCards
import Derived.LaidMore
namespace Go.Proofs.YtmpmfamiegpmgaaGreatDoor
open Go
theorem uo:Tryz.pinned.checked.prog.funcNamed Rows.astLooksRow.func=some 4:=by kernel_rfl
theorem E5:Tryz.f4.isInstance Tryz.pinned.checked.prog Rows.astLooksRow.origin Rows.astLooksRow.targs:=of_decide_eq_true (by kernel_rfl)
theorem EL:Tryz.f4.isWrapper Tryz.pinned.checked.prog Rows.astLooksRow.wrapper Rows.astLooksRow.mainSum:=by unfold Func.isWrapper; first | (rw [if_pos (by decide +kernel)]; kernel_rfl) | (rw [if_neg (by decide +kernel)]; exact ⟨rfl,rfl⟩)
theorem Ej:true=Tryz.pinned.checked.prog.looks []:=by kernel_rfl
theorem EC:false=Rows.astLooksRow.goesBy Tryz.pinned.checked.prog:=by kernel_rfl
theorem F6:Rows.astLooksRow.wfByText (OpenSpec.ofChange Rows.astLooksSpec)=true:=by kernel_rfl
theorem EN:Tryz.pinned.checked.prog.mainIs=some ((true,"b87bf66dfac5270c51634b817e79980e0e8c8d59cef80d3acc12d43b6dd891cf").1,(true,"b87bf66dfac5270c51634b817e79980e0e8c8d59cef80d3acc12d43b6dd891cf").2.toList):=by kernel_rfl
theorem EX:([26,26,27,23].all fun u=>!Tryz.prog.wantsStandIn u)=true:=by kernel_rfl
namespace astLooksDone
open Go.ChangeShapes Go.WideShapes Go.ChangeAt Go.RowKit
set_option linter.unusedVariables false
theorem over:Rows.astLooksRow.holds Tryz.pinned (OpenSpec.ofChange Rows.astLooksSpec) :=
 OpenClaim.holds_of_wide 4 Tryz.f4 rfl rfl rfl rfl rfl rfl rfl ⟨rfl,rfl,rfl,rfl,rfl⟩ rfl rfl rfl rfl rfl uo Tryz.func4 FY
  E5 EL
  (fun os started H enc _=>lifted os started H enc)
end astLooksDone
end Go.Proofs.YtmpmfamiegpmgaaGreatDoor
