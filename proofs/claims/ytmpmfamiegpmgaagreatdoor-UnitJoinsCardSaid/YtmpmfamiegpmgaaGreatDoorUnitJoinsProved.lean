/-
  UnitJoins: for every input the law returns true, and each argument reads afterwards as it read before. No condition but that the listed package-level variables read as the program's text lays them (the card ties them to it).
-/
import Derived.Test.YtmpmfamiegpmgaaGreatDoorFJG
import Derived.Test.YtmpmfamiegpmgaaGreatDoorFJD
import Derived.ProofKit
import Derived.OpenShut
import Derived.ShutString
import Derived.ChangeOld
import Derived.Below
import Derived.Carry
import Derived.Lib.SmallJoins
import Derived.Deep.SlicePairs
import Derived.Deep.RegionHeld
import Derived.Test.YtmpmfamiegpmgaaGreatDoorFJE
import Derived.Test.YtmpmfamiegpmgaaGreatDoorTie
import Derived.Test.YtmpmfamiegpmgaaGreatDoorCards
import Derived.SevenTiedAt
import Derived.LaidMore
import Derived.Stop.Joined
namespace Go.Proofs.YtmpmfamiegpmgaaGreatDoor
theorem unitJoins_holds : Rows.UnitJoinsCardSaid :=
  Claim7.holds_tied_plain_at .later [] [.data] true (true, "b87bf66dfac5270c51634b817e79980e0e8c8d59cef80d3acc12d43b6dd891cf") true
    unitJoinsDone.over (fun _ h => by cases h) unitJoins_g (fun _ h => by cases h) unitJoins_row_tie rfl ⟨rfl, rfl⟩ unitJoins_h rfl
    (fun f fn hf hfn => by
      obtain rfl : f = 15 := Option.some.inj ((show Tryz.prog.funcNamed "oriel/oriellaw10.UnitJoins" = some 15 from uY).symm.trans hf) |>.symm
      obtain rfl : fn = Tryz.f15 := (Option.some.inj (Tryz.func15.symm.trans hfn)).symm
      exact ⟨unitJoins_e, fun j t ht => by
        rw [Tryz.params15] at ht
        have hm : t ∈ [61, 3] := by simpa using Array.mem_of_getElem? ht
        have hall : ([61, 3].all fun u => !Tryz.prog.wantsStandIn u) = true := unitJoins_i
        exact (show Tryz.prog.wantsStandIn t = false by simpa using List.all_eq_true.1 hall t hm)⟩)
    unitJoins_f
end Go.Proofs.YtmpmfamiegpmgaaGreatDoor
