/-
  AstOnce: what function its row speaks of.; AstOnce: its row holds.
-/
import Derived.Test.YtmpmfamiegpmgaaGreatDoorRows
import Derived.JoinedOf
import Derived.Stop.Joined
import Derived.KernelRfl
import Derived.SevenTiedAt
import Derived.Test.YtmpmfamiegpmgaaGreatDoorFBB
import Derived.Test.YtmpmfamiegpmgaaGreatDoorFBC
import Derived.Test.YtmpmfamiegpmgaaGreatDoorFBA
import Derived.ProofKit
import Derived.OpenShut
import Derived.ShutString
import Derived.ChangeOld
import Derived.Below
import Derived.Carry
import Derived.Lib.SmallJoins
import Derived.Deep.SlicePairs
import Derived.Deep.RegionHeld
import Derived.Test.YtmpmfamiegpmgaaGreatDoorTie
import Derived.Test.YtmpmfamiegpmgaaGreatDoorCards
import Derived.LaidMore
namespace Go.Proofs.YtmpmfamiegpmgaaGreatDoor
open Go
theorem astOnce_b:Tryz.pinned.checked.prog.funcNamed Rows.astOnceRow.func=some 5:=by kernel_rfl
theorem astOnce_c:Tryz.f5.isInstance Tryz.pinned.checked.prog Rows.astOnceRow.origin Rows.astOnceRow.targs:=of_decide_eq_true (by kernel_rfl)
theorem astOnce_d:Tryz.f5.isWrapper Tryz.pinned.checked.prog Rows.astOnceRow.wrapper Rows.astOnceRow.mainSum:=by unfold Func.isWrapper; first | (rw [if_pos (by decide +kernel)]; kernel_rfl) | (rw [if_neg (by decide +kernel)]; exact ⟨rfl,rfl⟩)
theorem astOnce_e:true=Tryz.pinned.checked.prog.looks []:=by kernel_rfl
theorem astOnce_f:false=Rows.astOnceRow.goesBy Tryz.pinned.checked.prog:=by kernel_rfl
theorem astOnce_g:Rows.astOnceRow.wfByText (OpenSpec.ofChange Rows.astOnceSpec)=true:=by kernel_rfl
theorem astOnce_h:Tryz.pinned.checked.prog.mainIs=some ((true,"b87bf66dfac5270c51634b817e79980e0e8c8d59cef80d3acc12d43b6dd891cf").1,(true,"b87bf66dfac5270c51634b817e79980e0e8c8d59cef80d3acc12d43b6dd891cf").2.toList):=by kernel_rfl
theorem astOnce_i:([9,3,3].all fun u=>!Tryz.prog.wantsStandIn u)=true:=by kernel_rfl
end Go.Proofs.YtmpmfamiegpmgaaGreatDoor

namespace Go.Proofs.YtmpmfamiegpmgaaGreatDoor.astOnceDone
open Go.ChangeShapes Go.WideShapes Go.ChangeAt Go.RowKit
set_option linter.unusedVariables false

theorem over:Rows.astOnceRow.holds Tryz.pinned (OpenSpec.ofChange Rows.astOnceSpec) :=
 OpenClaim.holds_of_wide 5 Tryz.f5 rfl rfl rfl rfl rfl rfl rfl ⟨rfl,rfl,rfl,rfl,rfl⟩ rfl rfl rfl rfl rfl astOnce_b Tryz.func5 astOnce_a
  astOnce_c astOnce_d
  (fun os started H enc _=>lifted os started H enc)
end Go.Proofs.YtmpmfamiegpmgaaGreatDoor.astOnceDone
