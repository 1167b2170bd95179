/-
  UnitNil: closed facts of its row and of its function.; UnitNil: its row holds.
-/
import Derived.Test.YtmpmfamiegpmgaaGreatDoorRows
import Derived.JoinedOf
import Derived.Stop.Joined
import Derived.KernelRfl
import Derived.SevenTiedAt
import Derived.Test.YtmpmfamiegpmgaaGreatDoorFDB
import Derived.Test.YtmpmfamiegpmgaaGreatDoorFDC
import Derived.Test.YtmpmfamiegpmgaaGreatDoorFDA
import Derived.ProofKit
import Derived.OpenShut
import Derived.ShutString
import Derived.ChangeOld
import Derived.Below
import Derived.Carry
import Derived.Lib.SmallJoins
import Derived.Deep.SlicePairs
import Derived.Deep.RegionHeld
import Derived.Test.YtmpmfamiegpmgaaGreatDoorTie
import Derived.Test.YtmpmfamiegpmgaaGreatDoorCards
import Derived.LaidMore
namespace Go.Proofs.YtmpmfamiegpmgaaGreatDoor
open Go
theorem unitNil_b:Tryz.pinned.checked.prog.funcNamed Rows.unitNilRow.func=some 14:=by kernel_rfl
theorem unitNil_c:Tryz.f14.isInstance Tryz.pinned.checked.prog Rows.unitNilRow.origin Rows.unitNilRow.targs:=of_decide_eq_true (by kernel_rfl)
theorem unitNil_d:Tryz.f14.isWrapper Tryz.pinned.checked.prog Rows.unitNilRow.wrapper Rows.unitNilRow.mainSum:=by unfold Func.isWrapper; first | (rw [if_pos (by decide +kernel)]; kernel_rfl) | (rw [if_neg (by decide +kernel)]; exact ⟨rfl,rfl⟩)
theorem unitNil_e:true=Tryz.pinned.checked.prog.looks []:=by kernel_rfl
theorem unitNil_f:false=Rows.unitNilRow.goesBy Tryz.pinned.checked.prog:=by kernel_rfl
theorem unitNil_g:Rows.unitNilRow.wfByText (OpenSpec.ofChange Rows.unitNilSpec)=true:=by kernel_rfl
theorem unitNil_h:Tryz.pinned.checked.prog.mainIs=some ((true,"b87bf66dfac5270c51634b817e79980e0e8c8d59cef80d3acc12d43b6dd891cf").1,(true,"b87bf66dfac5270c51634b817e79980e0e8c8d59cef80d3acc12d43b6dd891cf").2.toList):=by kernel_rfl
theorem unitNil_i:([3,3].all fun u=>!Tryz.prog.wantsStandIn u)=true:=by kernel_rfl
end Go.Proofs.YtmpmfamiegpmgaaGreatDoor

namespace Go.Proofs.YtmpmfamiegpmgaaGreatDoor.unitNilDone
open Go.ChangeShapes Go.WideShapes Go.ChangeAt Go.RowKit
set_option linter.unusedVariables false

theorem over:Rows.unitNilRow.holds Tryz.pinned (OpenSpec.ofChange Rows.unitNilSpec) :=
 OpenClaim.holds_of_wide 14 Tryz.f14 rfl rfl rfl rfl rfl rfl rfl ⟨rfl,rfl,rfl,rfl,rfl⟩ rfl rfl rfl rfl rfl unitNil_b Tryz.func14 unitNil_a
  unitNil_c unitNil_d
  (fun os started H enc _=>lifted os started H enc)
end Go.Proofs.YtmpmfamiegpmgaaGreatDoor.unitNilDone
