/-
  UnitMany: closed facts of its row and of its function.; UnitMany: its row holds.
-/
import Derived.Test.YtmpmfamiegpmgaaGreatDoorRows
import Derived.JoinedOf
import Derived.Stop.Joined
import Derived.KernelRfl
import Derived.SevenTiedAt
import Derived.Test.YtmpmfamiegpmgaaGreatDoorFGB
import Derived.Test.YtmpmfamiegpmgaaGreatDoorFGC
import Derived.Test.YtmpmfamiegpmgaaGreatDoorFGA
import Derived.ProofKit
import Derived.OpenShut
import Derived.ShutString
import Derived.ChangeOld
import Derived.Below
import Derived.Carry
import Derived.Lib.SmallJoins
import Derived.Deep.SlicePairs
import Derived.Deep.RegionHeld
import Derived.Test.YtmpmfamiegpmgaaGreatDoorTie
import Derived.Test.YtmpmfamiegpmgaaGreatDoorCards
import Derived.LaidMore
namespace Go.Proofs.YtmpmfamiegpmgaaGreatDoor
open Go
theorem unitMany_b:Tryz.pinned.checked.prog.funcNamed Rows.unitManyRow.func=some 13:=by kernel_rfl
theorem unitMany_c:Tryz.f13.isInstance Tryz.pinned.checked.prog Rows.unitManyRow.origin Rows.unitManyRow.targs:=of_decide_eq_true (by kernel_rfl)
theorem unitMany_d:Tryz.f13.isWrapper Tryz.pinned.checked.prog Rows.unitManyRow.wrapper Rows.unitManyRow.mainSum:=by unfold Func.isWrapper; first | (rw [if_pos (by decide +kernel)]; kernel_rfl) | (rw [if_neg (by decide +kernel)]; exact ⟨rfl,rfl⟩)
theorem unitMany_e:true=Tryz.pinned.checked.prog.looks []:=by kernel_rfl
theorem unitMany_f:false=Rows.unitManyRow.goesBy Tryz.pinned.checked.prog:=by kernel_rfl
theorem unitMany_g:Rows.unitManyRow.wfByText (OpenSpec.ofChange Rows.unitManySpec)=true:=by kernel_rfl
theorem unitMany_h:Tryz.pinned.checked.prog.mainIs=some ((true,"b87bf66dfac5270c51634b817e79980e0e8c8d59cef80d3acc12d43b6dd891cf").1,(true,"b87bf66dfac5270c51634b817e79980e0e8c8d59cef80d3acc12d43b6dd891cf").2.toList):=by kernel_rfl
theorem unitMany_i:([3,3,3].all fun u=>!Tryz.prog.wantsStandIn u)=true:=by kernel_rfl
end Go.Proofs.YtmpmfamiegpmgaaGreatDoor

namespace Go.Proofs.YtmpmfamiegpmgaaGreatDoor.unitManyDone
open Go.ChangeShapes Go.WideShapes Go.ChangeAt Go.RowKit
set_option linter.unusedVariables false

theorem over:Rows.unitManyRow.holds Tryz.pinned (OpenSpec.ofChange Rows.unitManySpec) :=
 OpenClaim.holds_of_wide 13 Tryz.f13 rfl rfl rfl rfl rfl rfl rfl ⟨rfl,rfl,rfl,rfl,rfl⟩ rfl rfl rfl rfl rfl unitMany_b Tryz.func13 unitMany_a
  unitMany_c unitMany_d
  (fun os started H enc _=>lifted os started H enc)
end Go.Proofs.YtmpmfamiegpmgaaGreatDoor.unitManyDone
