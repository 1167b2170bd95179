/-
  UnitNil: for every input the law returns true, and each argument reads afterwards as it read before. No condition but that the listed package-level variables read as the program's text lays them (the card ties them to it).
-/
import Derived.Test.YtmpmfamiegpmgaaGreatDoorFDD
import Derived.Test.YtmpmfamiegpmgaaGreatDoorFDA
import Derived.ProofKit
import Derived.OpenShut
import Derived.ShutString
import Derived.ChangeOld
import Derived.Below
import Derived.Carry
import Derived.Lib.SmallJoins
import Derived.Deep.SlicePairs
import Derived.Deep.RegionHeld
import Derived.Test.YtmpmfamiegpmgaaGreatDoorFDB
import Derived.Test.YtmpmfamiegpmgaaGreatDoorTie
import Derived.Test.YtmpmfamiegpmgaaGreatDoorCards
import Derived.SevenTiedAt
import Derived.LaidMore
import Derived.Stop.Joined
namespace Go.Proofs.YtmpmfamiegpmgaaGreatDoor
/-- The given statement. -/
theorem unitNil_holds : Rows.UnitNilCardSaid :=
  Claim7.holds_tied_plain_at .later [] [.data] true (true, "b87bf66dfac5270c51634b817e79980e0e8c8d59cef80d3acc12d43b6dd891cf") true
    unitNilDone.over (fun _ h => by cases h) unitNil_g (fun _ h => by cases h) unitNil_row_tie rfl ⟨rfl, rfl⟩ unitNil_h rfl
    (fun f fn hf hfn => by
      obtain rfl : f = 14 := Option.some.inj ((show Tryz.prog.funcNamed "oriel/oriellaw10.UnitNil" = some 14 from unitNil_b).symm.trans hf) |>.symm
      obtain rfl : fn = Tryz.f14 := (Option.some.inj (Tryz.func14.symm.trans hfn)).symm
      exact ⟨unitNil_e, fun j t ht => by
        rw [Tryz.params14] at ht
        have hm : t ∈ [3, 3] := by simpa using Array.mem_of_getElem? ht
        have hall : ([3, 3].all fun u => !Tryz.prog.wantsStandIn u) = true := unitNil_i
        exact (show Tryz.prog.wantsStandIn t = false by simpa using List.all_eq_true.1 hall t hm)⟩)
    unitNil_f
end Go.Proofs.YtmpmfamiegpmgaaGreatDoor
