/-
  UnitRises: closed facts of its row and of its function.; UnitRises: its row holds.
-/
import Derived.Test.YtmpmfamiegpmgaaGreatDoorRows
import Derived.JoinedOf
import Derived.Stop.Joined
import Derived.KernelRfl
import Derived.SevenTiedAt
import Derived.Test.YtmpmfamiegpmgaaGreatDoorFEB
import Derived.Test.YtmpmfamiegpmgaaGreatDoorFEC
import Derived.Test.YtmpmfamiegpmgaaGreatDoorFEA
import Derived.ProofKit
import Derived.OpenShut
import Derived.ShutString
import Derived.ChangeOld
import Derived.Below
import Derived.Carry
import Derived.Lib.SmallJoins
import Derived.Deep.SlicePairs
import Derived.Deep.RegionHeld
import Derived.Test.YtmpmfamiegpmgaaGreatDoorFCE
import Derived.Test.YtmpmfamiegpmgaaGreatDoorTie
import Derived.Test.YtmpmfamiegpmgaaGreatDoorCards
import Derived.LaidMore
namespace Go.Proofs.YtmpmfamiegpmgaaGreatDoor
open Go
theorem unitRises_b:Tryz.pinned.checked.prog.funcNamed Rows.unitRisesRow.func=some 11:=by kernel_rfl
theorem unitRises_c:Tryz.f11.isInstance Tryz.pinned.checked.prog Rows.unitRisesRow.origin Rows.unitRisesRow.targs:=of_decide_eq_true (by kernel_rfl)
theorem unitRises_d:Tryz.f11.isWrapper Tryz.pinned.checked.prog Rows.unitRisesRow.wrapper Rows.unitRisesRow.mainSum:=by unfold Func.isWrapper; first | (rw [if_pos (by decide +kernel)]; kernel_rfl) | (rw [if_neg (by decide +kernel)]; exact ⟨rfl,rfl⟩)
theorem unitRises_e:true=Tryz.pinned.checked.prog.looks []:=by kernel_rfl
theorem unitRises_f:false=Rows.unitRisesRow.goesBy Tryz.pinned.checked.prog:=by kernel_rfl
theorem unitRises_g:Rows.unitRisesRow.wfByText (OpenSpec.ofChange Rows.unitRisesSpec)=true:=by kernel_rfl
theorem unitRises_h:Tryz.pinned.checked.prog.mainIs=some ((true,"b87bf66dfac5270c51634b817e79980e0e8c8d59cef80d3acc12d43b6dd891cf").1,(true,"b87bf66dfac5270c51634b817e79980e0e8c8d59cef80d3acc12d43b6dd891cf").2.toList):=by kernel_rfl
theorem unitRises_i:([61].all fun u=>!Tryz.prog.wantsStandIn u)=true:=by kernel_rfl
end Go.Proofs.YtmpmfamiegpmgaaGreatDoor

namespace Go.Proofs.YtmpmfamiegpmgaaGreatDoor.unitRisesDone
open Go.ChangeShapes Go.WideShapes Go.ChangeAt Go.RowKit
set_option linter.unusedVariables false

theorem over:Rows.unitRisesRow.holds Tryz.pinned (OpenSpec.ofChange Rows.unitRisesSpec) :=
 OpenClaim.holds_of_wide 11 Tryz.f11 rfl rfl rfl rfl rfl rfl rfl ⟨rfl,rfl,rfl,rfl,rfl⟩ rfl rfl rfl rfl rfl unitRises_b Tryz.func11 unitRises_a
  unitRises_c unitRises_d
  (fun os started H enc _=>lifted os started H enc)
end Go.Proofs.YtmpmfamiegpmgaaGreatDoor.unitRisesDone
