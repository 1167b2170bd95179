/-
  UnitMany: closed facts of its row.
-/
import Derived.Test.YtmpmfamiegpmgaaGreatDoorRows
import Derived.JoinedOf
import Derived.Stop.Joined
import Derived.KernelRfl
import Derived.SevenTiedAt
namespace Go.Proofs.YtmpmfamiegpmgaaGreatDoor
open Go
theorem unitMany_a:joinedFacts Tryz.pinned.checked.prog 13 Tryz.f13 Rows.unitManySpec Rows.unitManyRow=true:=by kernel_rfl
end Go.Proofs.YtmpmfamiegpmgaaGreatDoor
