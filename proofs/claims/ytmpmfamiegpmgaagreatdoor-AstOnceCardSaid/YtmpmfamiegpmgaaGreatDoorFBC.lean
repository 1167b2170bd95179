/-
  AstOnce: closed facts of its row.
-/
import Derived.Test.YtmpmfamiegpmgaaGreatDoorRows
import Derived.JoinedOf
import Derived.Stop.Joined
import Derived.KernelRfl
namespace Go.Proofs.YtmpmfamiegpmgaaGreatDoor
open Go
theorem astOnce_a:joinedFacts Tryz.pinned.checked.prog 5 Tryz.f5 Rows.astOnceSpec Rows.astOnceRow=true:=by kernel_rfl
end Go.Proofs.YtmpmfamiegpmgaaGreatDoor
