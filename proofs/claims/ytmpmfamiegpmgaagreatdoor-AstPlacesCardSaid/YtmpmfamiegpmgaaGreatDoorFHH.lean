/-
  AstPlaces: closed facts of its row and of its function.; AstPlaces: its row holds.
-/
import Derived.Test.YtmpmfamiegpmgaaGreatDoorRows
import Derived.JoinedOf
import Derived.Stop.Joined
import Derived.KernelRfl
import Derived.SevenTiedAt
import Derived.Test.YtmpmfamiegpmgaaGreatDoorFHF
import Derived.Test.YtmpmfamiegpmgaaGreatDoorFHG
import Derived.Test.YtmpmfamiegpmgaaGreatDoorFHE
import Derived.ProofKit
import Derived.OpenShut
import Derived.ShutString
import Derived.ChangeOld
import Derived.Below
import Derived.Carry
import Derived.Lib.SmallJoins
import Derived.Deep.SlicePairs
import Derived.Deep.RegionHeld
import Derived.Test.YtmpmfamiegpmgaaGreatDoorTie
import Derived.Test.YtmpmfamiegpmgaaGreatDoorCards
import Derived.LaidMore
namespace Go.Proofs.YtmpmfamiegpmgaaGreatDoor
open Go
theorem uH:Tryz.pinned.checked.prog.funcNamed Rows.astPlacesRow.func=some 6:=by kernel_rfl
theorem CB:Tryz.f6.isInstance Tryz.pinned.checked.prog Rows.astPlacesRow.origin Rows.astPlacesRow.targs:=of_decide_eq_true (by kernel_rfl)
theorem CO:Tryz.f6.isWrapper Tryz.pinned.checked.prog Rows.astPlacesRow.wrapper Rows.astPlacesRow.mainSum:=by unfold Func.isWrapper; first | (rw [if_pos (by decide +kernel)]; kernel_rfl) | (rw [if_neg (by decide +kernel)]; exact ⟨rfl,rfl⟩)
theorem BJ:true=Tryz.pinned.checked.prog.looks []:=by kernel_rfl
theorem Cj:false=Rows.astPlacesRow.goesBy Tryz.pinned.checked.prog:=by kernel_rfl
theorem CZ:Rows.astPlacesRow.wfByText (OpenSpec.ofChange Rows.astPlacesSpec)=true:=by kernel_rfl
theorem Dp:Tryz.pinned.checked.prog.mainIs=some ((true,"b87bf66dfac5270c51634b817e79980e0e8c8d59cef80d3acc12d43b6dd891cf").1,(true,"b87bf66dfac5270c51634b817e79980e0e8c8d59cef80d3acc12d43b6dd891cf").2.toList):=by kernel_rfl
theorem BR:([9,3].all fun u=>!Tryz.prog.wantsStandIn u)=true:=by kernel_rfl
namespace astPlacesDone
open Go.ChangeShapes Go.WideShapes Go.ChangeAt Go.RowKit
set_option linter.unusedVariables false
theorem over:Rows.astPlacesRow.holds Tryz.pinned (OpenSpec.ofChange Rows.astPlacesSpec) :=
 OpenClaim.holds_of_wide 6 Tryz.f6 rfl rfl rfl rfl rfl rfl rfl ⟨rfl,rfl,rfl,rfl,rfl⟩ rfl rfl rfl rfl rfl uH Tryz.func6 DU
  CB CO
  (fun os started H enc _=>lifted os started H enc)
end astPlacesDone
end Go.Proofs.YtmpmfamiegpmgaaGreatDoor
