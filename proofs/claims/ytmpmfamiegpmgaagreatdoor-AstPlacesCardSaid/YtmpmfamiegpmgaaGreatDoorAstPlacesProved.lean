/-
  AstPlaces: for every input the law returns true, and each argument reads afterwards as it read before. No condition but that the listed package-level variables read as the program's text lays them (the card ties them to it).
-/
import Derived.Test.YtmpmfamiegpmgaaGreatDoorFHH
import Derived.Test.YtmpmfamiegpmgaaGreatDoorFHE
import Derived.ProofKit
import Derived.OpenShut
import Derived.ShutString
import Derived.ChangeOld
import Derived.Below
import Derived.Carry
import Derived.Lib.SmallJoins
import Derived.Deep.SlicePairs
import Derived.Deep.RegionHeld
import Derived.Test.YtmpmfamiegpmgaaGreatDoorFHF
import Derived.Test.YtmpmfamiegpmgaaGreatDoorTie
import Derived.Test.YtmpmfamiegpmgaaGreatDoorCards
import Derived.SevenTiedAt
import Derived.LaidMore
import Derived.Stop.Joined
namespace Go.Proofs.YtmpmfamiegpmgaaGreatDoor
theorem astPlaces_holds:Rows.AstPlacesCardSaid :=
  Claim7.holds_tied_plain_at .later [] [.data] true (true,"b87bf66dfac5270c51634b817e79980e0e8c8d59cef80d3acc12d43b6dd891cf") true
    astPlacesDone.over (fun _ h=>by cases h) CZ (fun _ h=>by cases h) astPlaces_row_tie rfl ⟨rfl,rfl⟩ Dp rfl
    (fun f fn hf hfn=>by
      obtain rfl:f=6:=Option.some.inj ((show Tryz.prog.funcNamed "oriel/oriellaw08.AstPlaces"=some 6 from uH).symm.trans hf) |>.symm
      obtain rfl:fn=Tryz.f6:=(Option.some.inj (Tryz.func6.symm.trans hfn)).symm
      exact ⟨BJ,fun j t ht=>by
        rw [Tryz.params6] at ht
        have hm:t ∈ [9,3]:=by simpa using Array.mem_of_getElem? ht
        have hall:([9,3].all fun u=>!Tryz.prog.wantsStandIn u)=true:=BR
        exact (show Tryz.prog.wantsStandIn t=false by simpa using List.all_eq_true.1 hall t hm)⟩)
    Cj
end Go.Proofs.YtmpmfamiegpmgaaGreatDoor
