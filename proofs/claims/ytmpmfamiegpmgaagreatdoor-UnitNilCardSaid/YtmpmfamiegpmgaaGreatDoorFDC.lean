/-
  UnitNil: closed facts of its row.
-/
import Derived.Test.YtmpmfamiegpmgaaGreatDoorRows
import Derived.JoinedOf
import Derived.Stop.Joined
import Derived.KernelRfl
import Derived.SevenTiedAt
namespace Go.Proofs.YtmpmfamiegpmgaaGreatDoor
open Go
theorem unitNil_a:joinedFacts Tryz.pinned.checked.prog 14 Tryz.f14 Rows.unitNilSpec Rows.unitNilRow=true:=by kernel_rfl
end Go.Proofs.YtmpmfamiegpmgaaGreatDoor
