/-
  UnitJoins: closed facts of its row.
-/
import Derived.Test.YtmpmfamiegpmgaaGreatDoorRows
import Derived.JoinedOf
import Derived.Stop.Joined
import Derived.KernelRfl
import Derived.SevenTiedAt
namespace Go.Proofs.YtmpmfamiegpmgaaGreatDoor
open Go
theorem Ef:joinedFacts Tryz.pinned.checked.prog 15 Tryz.f15 Rows.unitJoinsSpec Rows.unitJoinsRow=true:=by kernel_rfl
end Go.Proofs.YtmpmfamiegpmgaaGreatDoor
