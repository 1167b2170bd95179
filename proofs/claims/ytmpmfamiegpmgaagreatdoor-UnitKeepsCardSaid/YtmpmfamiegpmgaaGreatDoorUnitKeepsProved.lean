/-
  UnitKeeps: for every input the law returns true, and each argument reads afterwards as it read before. No condition but that the listed package-level variables read as the program's text lays them (the card ties them to it).
-/
import Derived.Test.YtmpmfamiegpmgaaGreatDoorGJG
import Derived.Test.YtmpmfamiegpmgaaGreatDoorGJH
import Derived.ProofKit
import Derived.OpenShut
import Derived.ShutString
import Derived.ChangeOld
import Derived.Below
import Derived.Carry
import Derived.Lib.SmallJoins
import Derived.Deep.SlicePairs
import Derived.Deep.RegionHeld
import Derived.Test.YtmpmfamiegpmgaaGreatDoorGJD
import Derived.Test.YtmpmfamiegpmgaaGreatDoorGJE
import Derived.Test.YtmpmfamiegpmgaaGreatDoorTie
import Derived.Test.YtmpmfamiegpmgaaGreatDoorCards
import Derived.SevenTiedAt
import Derived.LaidMore
import Derived.Stop.Joined
namespace Go.Proofs.YtmpmfamiegpmgaaGreatDoor
theorem unitKeeps_holds : Rows.UnitKeepsCardSaid :=
  Claim7.holds_tied_plain_at .later [] [.data] true (true, "b87bf66dfac5270c51634b817e79980e0e8c8d59cef80d3acc12d43b6dd891cf") true
    unitKeepsDone.over (fun _ h => by cases h) unitKeeps_g (fun _ h => by cases h) unitKeeps_row_tie rfl ⟨rfl, rfl⟩ unitKeeps_h rfl
    (fun f fn hf hfn => by
      obtain rfl : f = 12 := Option.some.inj ((show Tryz.prog.funcNamed "oriel/oriellaw10.UnitKeeps" = some 12 from uU).symm.trans hf) |>.symm
      obtain rfl : fn = Tryz.f12 := (Option.some.inj (Tryz.func12.symm.trans hfn)).symm
      exact ⟨unitKeeps_e, fun j t ht => by
        rw [Tryz.params12] at ht
        have hm : t ∈ [61] := by simpa using Array.mem_of_getElem? ht
        have hall : ([61].all fun u => !Tryz.prog.wantsStandIn u) = true := unitKeeps_i
        exact (show Tryz.prog.wantsStandIn t = false by simpa using List.all_eq_true.1 hall t hm)⟩)
    unitKeeps_f
end Go.Proofs.YtmpmfamiegpmgaaGreatDoor
