/-
  DERIVED. GIVEN WITH THE SEED: THE CARDS: each row of YtmpmfamiegpmgaaGreatDoorRows.lean that lists a variable, with what it lists TIED to the program's text (the seventh form; the later family's looks); each row that meets fmt, with fmt's text TOLD by the authors' own Lean function (tested against real Go, not proved from fmt's source: count such statements apart). THE CARD IS WHAT COUNTS. Prove the row's statement (the work); the ties are given (YtmpmfamiegpmgaaGreatDoorTie.lean); close each card by the builder's one call (the guide's Derived/Test/ToyasCard.lean, 'card_holds'). Laid BY PROGRAM, IN A SANDBOX (cutbox-door.mjs). By AI agents, Wed Nov 11 2026. No macro, syntax, notation, axiom, sorry.
-/
import Derived.Test.YtmpmfamiegpmgaaGreatDoorRows
import GoSem.ClaimSeven
namespace Go.Proofs.YtmpmfamiegpmgaaGreatDoor
namespace Rows

/-- THE TIED CARD OF 'oriellaw08.AstFiles'. -/
def astFilesCard : Claim7 := { stood := { row := astFilesRow, standIns := [], harness := (true, "b87bf66dfac5270c51634b817e79980e0e8c8d59cef80d3acc12d43b6dd891cf"), looks := true }, kinds := [], alts := [], laidByText := true, laidKinds := [.data], laidTests := true, laidLooks := .later }
def AstFilesCardSaid : Prop := Claim7.holds Tryz.pinned (.plain (OpenSpec.ofChange astFilesSpec)) astFilesCard

/-- THE TIED CARD OF 'oriellaw08.AstLooks'. -/
def astLooksCard : Claim7 := { stood := { row := astLooksRow, standIns := [], harness := (true, "b87bf66dfac5270c51634b817e79980e0e8c8d59cef80d3acc12d43b6dd891cf"), looks := true }, kinds := [], alts := [], laidByText := true, laidKinds := [.data], laidTests := true, laidLooks := .later }
def AstLooksCardSaid : Prop := Claim7.holds Tryz.pinned (.plain (OpenSpec.ofChange astLooksSpec)) astLooksCard

/-- THE TIED CARD OF 'oriellaw08.AstOnce'. -/
def astOnceCard : Claim7 := { stood := { row := astOnceRow, standIns := [], harness := (true, "b87bf66dfac5270c51634b817e79980e0e8c8d59cef80d3acc12d43b6dd891cf"), looks := true }, kinds := [], alts := [], laidByText := true, laidKinds := [.data], laidTests := true, laidLooks := .later }
def AstOnceCardSaid : Prop := Claim7.holds Tryz.pinned (.plain (OpenSpec.ofChange astOnceSpec)) astOnceCard

/-- THE TIED CARD OF 'oriellaw08.AstPlaces'. -/
def astPlacesCard : Claim7 := { stood := { row := astPlacesRow, standIns := [], harness := (true, "b87bf66dfac5270c51634b817e79980e0e8c8d59cef80d3acc12d43b6dd891cf"), looks := true }, kinds := [], alts := [], laidByText := true, laidKinds := [.data], laidTests := true, laidLooks := .later }
def AstPlacesCardSaid : Prop := Claim7.holds Tryz.pinned (.plain (OpenSpec.ofChange astPlacesSpec)) astPlacesCard

/-- THE TIED CARD OF 'oriellaw09.ShowOne'. -/
def showOneCard : Claim7 := { stood := { row := showOneRow, standIns := [], harness := (true, "b87bf66dfac5270c51634b817e79980e0e8c8d59cef80d3acc12d43b6dd891cf"), looks := true }, kinds := [], alts := [], laidByText := true, laidKinds := [.data], laidTests := true, laidLooks := .later }
def ShowOneCardSaid : Prop := Claim7.holds Tryz.pinned (.plain (OpenSpec.ofChange showOneSpec)) showOneCard

/-- THE TIED CARD OF 'oriellaw09.ShowAny'. -/
def showAnyCard : Claim7 := { stood := { row := showAnyRow, standIns := [], harness := (true, "b87bf66dfac5270c51634b817e79980e0e8c8d59cef80d3acc12d43b6dd891cf"), looks := true }, kinds := [], alts := [], laidByText := true, laidKinds := [.data], laidTests := true, laidLooks := .later }
def ShowAnyCardSaid : Prop := Claim7.holds Tryz.pinned (.plain (OpenSpec.ofChange showAnySpec)) showAnyCard

/-- THE TIED CARD OF 'oriellaw09.ShowParens'. -/
def showParensCard : Claim7 := { stood := { row := showParensRow, standIns := [], harness := (true, "b87bf66dfac5270c51634b817e79980e0e8c8d59cef80d3acc12d43b6dd891cf"), looks := true }, kinds := [], alts := [], laidByText := true, laidKinds := [.data], laidTests := true, laidLooks := .later }
def ShowParensCardSaid : Prop := Claim7.holds Tryz.pinned (.plain (OpenSpec.ofChange showParensSpec)) showParensCard

/-- THE TIED CARD OF 'oriellaw10.UnitLoads'. -/
def unitLoadsCard : Claim7 := { stood := { row := unitLoadsRow, standIns := [], harness := (true, "b87bf66dfac5270c51634b817e79980e0e8c8d59cef80d3acc12d43b6dd891cf"), looks := true }, kinds := [], alts := [], laidByText := true, laidKinds := [.data], laidTests := true, laidLooks := .later }
def UnitLoadsCardSaid : Prop := Claim7.holds Tryz.pinned (.plain (OpenSpec.ofChange unitLoadsSpec)) unitLoadsCard

/-- THE TIED CARD OF 'oriellaw10.UnitRises'. -/
def unitRisesCard : Claim7 := { stood := { row := unitRisesRow, standIns := [], harness := (true, "b87bf66dfac5270c51634b817e79980e0e8c8d59cef80d3acc12d43b6dd891cf"), looks := true }, kinds := [], alts := [], laidByText := true, laidKinds := [.data], laidTests := true, laidLooks := .later }
def UnitRisesCardSaid : Prop := Claim7.holds Tryz.pinned (.plain (OpenSpec.ofChange unitRisesSpec)) unitRisesCard

/-- THE TIED CARD OF 'oriellaw10.UnitKeeps'. -/
def unitKeepsCard : Claim7 := { stood := { row := unitKeepsRow, standIns := [], harness := (true, "b87bf66dfac5270c51634b817e79980e0e8c8d59cef80d3acc12d43b6dd891cf"), looks := true }, kinds := [], alts := [], laidByText := true, laidKinds := [.data], laidTests := true, laidLooks := .later }
def UnitKeepsCardSaid : Prop := Claim7.holds Tryz.pinned (.plain (OpenSpec.ofChange unitKeepsSpec)) unitKeepsCard

/-- THE TIED CARD OF 'oriellaw10.UnitMany'. -/
def unitManyCard : Claim7 := { stood := { row := unitManyRow, standIns := [], harness := (true, "b87bf66dfac5270c51634b817e79980e0e8c8d59cef80d3acc12d43b6dd891cf"), looks := true }, kinds := [], alts := [], laidByText := true, laidKinds := [.data], laidTests := true, laidLooks := .later }
def UnitManyCardSaid : Prop := Claim7.holds Tryz.pinned (.plain (OpenSpec.ofChange unitManySpec)) unitManyCard

/-- THE TIED CARD OF 'oriellaw10.UnitNil'. -/
def unitNilCard : Claim7 := { stood := { row := unitNilRow, standIns := [], harness := (true, "b87bf66dfac5270c51634b817e79980e0e8c8d59cef80d3acc12d43b6dd891cf"), looks := true }, kinds := [], alts := [], laidByText := true, laidKinds := [.data], laidTests := true, laidLooks := .later }
def UnitNilCardSaid : Prop := Claim7.holds Tryz.pinned (.plain (OpenSpec.ofChange unitNilSpec)) unitNilCard

/-- THE TIED CARD OF 'oriellaw10.UnitJoins'. -/
def unitJoinsCard : Claim7 := { stood := { row := unitJoinsRow, standIns := [], harness := (true, "b87bf66dfac5270c51634b817e79980e0e8c8d59cef80d3acc12d43b6dd891cf"), looks := true }, kinds := [], alts := [], laidByText := true, laidKinds := [.data], laidTests := true, laidLooks := .later }
def UnitJoinsCardSaid : Prop := Claim7.holds Tryz.pinned (.plain (OpenSpec.ofChange unitJoinsSpec)) unitJoinsCard

/-- THE SECOND FORM's CARD OF 'oriellaw08.AstFiles'. -/
def astFilesUptoCard : Claim7 := { stood := { row := astFilesUptoRow, standIns := [], harness := (true, "b87bf66dfac5270c51634b817e79980e0e8c8d59cef80d3acc12d43b6dd891cf"), looks := true }, kinds := [], alts := [], laidByText := true, laidKinds := [.data], laidTests := true, laidLooks := .later }
def AstFilesUptoCardSaid : Prop := Claim7.holds Tryz.pinned (.plain (OpenSpec.upto astFilesSpec)) astFilesUptoCard

/-- THE SECOND FORM's CARD OF 'oriellaw08.AstLooks'. -/
def astLooksUptoCard : Claim7 := { stood := { row := astLooksUptoRow, standIns := [], harness := (true, "b87bf66dfac5270c51634b817e79980e0e8c8d59cef80d3acc12d43b6dd891cf"), looks := true }, kinds := [], alts := [], laidByText := true, laidKinds := [.data], laidTests := true, laidLooks := .later }
def AstLooksUptoCardSaid : Prop := Claim7.holds Tryz.pinned (.plain (OpenSpec.upto astLooksSpec)) astLooksUptoCard

/-- THE SECOND FORM's CARD OF 'oriellaw08.AstOnce'. -/
def astOnceUptoCard : Claim7 := { stood := { row := astOnceUptoRow, standIns := [], harness := (true, "b87bf66dfac5270c51634b817e79980e0e8c8d59cef80d3acc12d43b6dd891cf"), looks := true }, kinds := [], alts := [], laidByText := true, laidKinds := [.data], laidTests := true, laidLooks := .later }
def AstOnceUptoCardSaid : Prop := Claim7.holds Tryz.pinned (.plain (OpenSpec.upto astOnceSpec)) astOnceUptoCard

/-- THE SECOND FORM's CARD OF 'oriellaw08.AstPlaces'. -/
def astPlacesUptoCard : Claim7 := { stood := { row := astPlacesUptoRow, standIns := [], harness := (true, "b87bf66dfac5270c51634b817e79980e0e8c8d59cef80d3acc12d43b6dd891cf"), looks := true }, kinds := [], alts := [], laidByText := true, laidKinds := [.data], laidTests := true, laidLooks := .later }
def AstPlacesUptoCardSaid : Prop := Claim7.holds Tryz.pinned (.plain (OpenSpec.upto astPlacesSpec)) astPlacesUptoCard

/-- THE SECOND FORM's CARD OF 'oriellaw09.ShowOne'. -/
def showOneUptoCard : Claim7 := { stood := { row := showOneUptoRow, standIns := [], harness := (true, "b87bf66dfac5270c51634b817e79980e0e8c8d59cef80d3acc12d43b6dd891cf"), looks := true }, kinds := [], alts := [], laidByText := true, laidKinds := [.data], laidTests := true, laidLooks := .later }
def ShowOneUptoCardSaid : Prop := Claim7.holds Tryz.pinned (.plain (OpenSpec.upto showOneSpec)) showOneUptoCard

/-- THE SECOND FORM's CARD OF 'oriellaw09.ShowAny'. -/
def showAnyUptoCard : Claim7 := { stood := { row := showAnyUptoRow, standIns := [], harness := (true, "b87bf66dfac5270c51634b817e79980e0e8c8d59cef80d3acc12d43b6dd891cf"), looks := true }, kinds := [], alts := [], laidByText := true, laidKinds := [.data], laidTests := true, laidLooks := .later }
def ShowAnyUptoCardSaid : Prop := Claim7.holds Tryz.pinned (.plain (OpenSpec.upto showAnySpec)) showAnyUptoCard

/-- THE SECOND FORM's CARD OF 'oriellaw09.ShowParens'. -/
def showParensUptoCard : Claim7 := { stood := { row := showParensUptoRow, standIns := [], harness := (true, "b87bf66dfac5270c51634b817e79980e0e8c8d59cef80d3acc12d43b6dd891cf"), looks := true }, kinds := [], alts := [], laidByText := true, laidKinds := [.data], laidTests := true, laidLooks := .later }
def ShowParensUptoCardSaid : Prop := Claim7.holds Tryz.pinned (.plain (OpenSpec.upto showParensSpec)) showParensUptoCard

/-- THE SECOND FORM's CARD OF 'oriellaw10.UnitLoads'. -/
def unitLoadsUptoCard : Claim7 := { stood := { row := unitLoadsUptoRow, standIns := [], harness := (true, "b87bf66dfac5270c51634b817e79980e0e8c8d59cef80d3acc12d43b6dd891cf"), looks := true }, kinds := [], alts := [], laidByText := true, laidKinds := [.data], laidTests := true, laidLooks := .later }
def UnitLoadsUptoCardSaid : Prop := Claim7.holds Tryz.pinned (.plain (OpenSpec.upto unitLoadsSpec)) unitLoadsUptoCard

/-- THE SECOND FORM's CARD OF 'oriellaw10.UnitRises'. -/
def unitRisesUptoCard : Claim7 := { stood := { row := unitRisesUptoRow, standIns := [], harness := (true, "b87bf66dfac5270c51634b817e79980e0e8c8d59cef80d3acc12d43b6dd891cf"), looks := true }, kinds := [], alts := [], laidByText := true, laidKinds := [.data], laidTests := true, laidLooks := .later }
def UnitRisesUptoCardSaid : Prop := Claim7.holds Tryz.pinned (.plain (OpenSpec.upto unitRisesSpec)) unitRisesUptoCard

/-- THE SECOND FORM's CARD OF 'oriellaw10.UnitKeeps'. -/
def unitKeepsUptoCard : Claim7 := { stood := { row := unitKeepsUptoRow, standIns := [], harness := (true, "b87bf66dfac5270c51634b817e79980e0e8c8d59cef80d3acc12d43b6dd891cf"), looks := true }, kinds := [], alts := [], laidByText := true, laidKinds := [.data], laidTests := true, laidLooks := .later }
def UnitKeepsUptoCardSaid : Prop := Claim7.holds Tryz.pinned (.plain (OpenSpec.upto unitKeepsSpec)) unitKeepsUptoCard

/-- THE SECOND FORM's CARD OF 'oriellaw10.UnitMany'. -/
def unitManyUptoCard : Claim7 := { stood := { row := unitManyUptoRow, standIns := [], harness := (true, "b87bf66dfac5270c51634b817e79980e0e8c8d59cef80d3acc12d43b6dd891cf"), looks := true }, kinds := [], alts := [], laidByText := true, laidKinds := [.data], laidTests := true, laidLooks := .later }
def UnitManyUptoCardSaid : Prop := Claim7.holds Tryz.pinned (.plain (OpenSpec.upto unitManySpec)) unitManyUptoCard

/-- THE SECOND FORM's CARD OF 'oriellaw10.UnitNil'. -/
def unitNilUptoCard : Claim7 := { stood := { row := unitNilUptoRow, standIns := [], harness := (true, "b87bf66dfac5270c51634b817e79980e0e8c8d59cef80d3acc12d43b6dd891cf"), looks := true }, kinds := [], alts := [], laidByText := true, laidKinds := [.data], laidTests := true, laidLooks := .later }
def UnitNilUptoCardSaid : Prop := Claim7.holds Tryz.pinned (.plain (OpenSpec.upto unitNilSpec)) unitNilUptoCard

/-- THE SECOND FORM's CARD OF 'oriellaw10.UnitJoins'. -/
def unitJoinsUptoCard : Claim7 := { stood := { row := unitJoinsUptoRow, standIns := [], harness := (true, "b87bf66dfac5270c51634b817e79980e0e8c8d59cef80d3acc12d43b6dd891cf"), looks := true }, kinds := [], alts := [], laidByText := true, laidKinds := [.data], laidTests := true, laidLooks := .later }
def UnitJoinsUptoCardSaid : Prop := Claim7.holds Tryz.pinned (.plain (OpenSpec.upto unitJoinsSpec)) unitJoinsUptoCard
end Rows
end Go.Proofs.YtmpmfamiegpmgaaGreatDoor
