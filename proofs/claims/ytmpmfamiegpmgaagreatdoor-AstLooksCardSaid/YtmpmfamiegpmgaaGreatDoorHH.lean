/-
  AstLooks: closed facts of its row.
-/
import Derived.Test.YtmpmfamiegpmgaaGreatDoorRows
import Derived.JoinedOf
import Derived.Stop.Joined
import Derived.KernelRfl
import Derived.SevenTiedAt
namespace Go.Proofs.YtmpmfamiegpmgaaGreatDoor
open Go
theorem FY:joinedFacts Tryz.pinned.checked.prog 4 Tryz.f4 Rows.astLooksSpec Rows.astLooksRow=true:=by kernel_rfl
end Go.Proofs.YtmpmfamiegpmgaaGreatDoor
