/-
  AstLooks: for every input the law returns true, and each argument reads afterwards as it read before. No condition but that the listed package-level variables read as the program's text lays them (the card ties them to it).
-/
import Derived.Test.YtmpmfamiegpmgaaGreatDoorHI
import Derived.Test.YtmpmfamiegpmgaaGreatDoorHG
import Derived.ProofKit
import Derived.OpenShut
import Derived.ShutString
import Derived.ChangeOld
import Derived.Below
import Derived.Carry
import Derived.Lib.SmallJoins
import Derived.Deep.SlicePairs
import Derived.Deep.RegionHeld
import Derived.Test.YtmpmfamiegpmgaaGreatDoorHD
import Derived.Test.YtmpmfamiegpmgaaGreatDoorTie
import Derived.Test.YtmpmfamiegpmgaaGreatDoorCards
import Derived.SevenTiedAt
import Derived.LaidMore
import Derived.Stop.Joined
namespace Go.Proofs.YtmpmfamiegpmgaaGreatDoor
open _root_.Go.Proofs.Tryz
theorem astLooks_holds : Rows.AstLooksCardSaid :=
  Claim7.holds_tied_plain_at .later [] [.data] true (true, "b87bf66dfac5270c51634b817e79980e0e8c8d59cef80d3acc12d43b6dd891cf") true
    astLooksDone.over (fun _ h => by cases h) F6 (fun _ h => by cases h) astLooks_row_tie rfl ⟨rfl, rfl⟩ EN rfl
    (fun f fn hf hfn => by
      obtain rfl : f = 4 := Option.some.inj ((show prog.funcNamed "oriel/oriellaw08.AstLooks" = some 4 from uo).symm.trans hf) |>.symm
      obtain rfl : fn = f4 := (Option.some.inj (func4.symm.trans hfn)).symm
      exact ⟨Ej, fun j t ht => by
        rw [params4] at ht
        have hm : t ∈ [26, 26, 27, 23] := by simpa using Array.mem_of_getElem? ht
        have hall : ([26, 26, 27, 23].all fun u => !prog.wantsStandIn u) = true := EX
        exact (show prog.wantsStandIn t = false by simpa using List.all_eq_true.1 hall t hm)⟩)
    EC
end Go.Proofs.YtmpmfamiegpmgaaGreatDoor
