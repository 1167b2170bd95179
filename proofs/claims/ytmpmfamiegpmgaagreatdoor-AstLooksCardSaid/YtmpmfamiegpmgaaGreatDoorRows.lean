/-
  NARROWER THAN 'FOR EVERY INPUT', by the rows' own cells (each row's printed sentence says how): AstFiles: laid · AstLooks: loops, laid · AstOnce: laid · AstPlaces: laid · ShowOne: laid · ShowAny: loops, laid · ShowParens: laid · UnitLoads: laid · UnitRises: laid · UnitKeeps: laid · UnitMany: laid · UnitNil: laid · UnitJoins: laid.
  DERIVED. THE GIVEN ROWS OF THIS SEAT. 13 by the template 'for every input the law returns true; each argument reads behind the call as it read before'; 0 by the template 'total and deterministic' (their statements: YtmpmfamiegpmgaaGreatDoorTotals.lean).
  GIVEN WITH THE SEED: the statements are not yours to turn. If you find one false, say at which input.
  Laid BY PROGRAM, IN A SANDBOX (cutbox-rows.mjs): the forced cells as the released guide's own fill.sh prints them over the translation cca47efb289014b5… (all of the seat's roots in one cut). By AI agents, Wed Nov 11 2026. No macro, syntax, notation, axiom, sorry.
-/
import Derived.Test.YtmpmfamiegpmgaaGreatDoorChecked
import GoSem.Claim
import GoSem.ClaimJoined
import GoSem.ClaimMapViews
import Derived.JoinedTies
import Derived.KernelRfl
namespace Go.Proofs.YtmpmfamiegpmgaaGreatDoor
/- THE CELL 'sum', in the pinned program and in every row, IS THE sha256 OF THE DUMP (.gsa) THAT YtmpmfamiegpmgaaGreatDoorProg.lean LOADS. Nothing in Lean hashes anything: it is a label: what it is worth is what the hold of that sum in a sandbox is worth. -/
noncomputable def Tryz.pinned : Pinned := { name := "ytmpmfamiegpmgaagreatdoor", sum := "cca47efb289014b5b643c93054a9a87f35b78c7b90dea70dde15be838a3dd5d6", checked := Tryz.checked }
namespace Rows
def none {H : Type} : Left H := { results := [], args := [] }

/- WHAT THE LISTED PACKAGE-LEVEL VARIABLES READ AS WHEN THE CALL BEGINS. Each datum BY PROGRAM (the guide's laid-datum.mjs) off the statement by which the dump's own 'gosem.cut.vars' lays the variable. In a bare row this is a premise. The card (YtmpmfamiegpmgaaGreatDoorCards.lean) ties it to the program's text. -/
def laid_oriel_name_keywords {H : Type} : DataW H := .agg [.lit (.string [97, 110, 100]), .lit (.string [97, 115]), .lit (.string [99, 97, 115, 101]), .lit (.string [100, 97, 116, 97, 116, 121, 112, 101]), .lit (.string [101, 108, 115, 101]), .lit (.string [101, 110, 100]), .lit (.string [102, 110]), .lit (.string [102, 117, 110]), .lit (.string [102, 117, 110, 99, 116, 111, 114]), .lit (.string [105, 102]), .lit (.string [105, 110]), .lit (.string [105, 110, 99, 108, 117, 100, 101]), .lit (.string [108, 101, 116]), .lit (.string [108, 111, 99, 97, 108]), .lit (.string [111, 102]), .lit (.string [111, 112]), .lit (.string [111, 112, 101, 110]), .lit (.string [115, 105, 103]), .lit (.string [115, 105, 103, 110, 97, 116, 117, 114, 101]), .lit (.string [115, 116, 114, 117, 99, 116]), .lit (.string [115, 116, 114, 117, 99, 116, 117, 114, 101]), .lit (.string [116, 104, 101, 110]), .lit (.string [116, 121, 112, 101]), .lit (.string [118, 97, 108]), .lit (.string [119, 104, 101, 114, 101])]

/-- 'oriellaw08.AstFiles': WHATEVER THE INPUT: true; the input reads as it did. -/
def astFilesSpec : ChangeSpec := { name := "astFiles", fn := fun _ => fun
  | [d1, d2, d3] => { results := [.lit (.bool true)], args := [d1, d2, d3] }
  | _ => none }
def astFilesRow : OpenClaim := { program := "ytmpmfamiegpmgaagreatdoor", sum := "cca47efb289014b5b643c93054a9a87f35b78c7b90dea70dde15be838a3dd5d6", func := "oriel/oriellaw08.AstFiles", spec := "astFiles", inPlace := ["internal/bytealg.IndexByteString"], unfollowed := true, recurses := true, named := ["oriel/name.keywords"], apart := false, laid := [("oriel/name.keywords", laid_oriel_name_keywords)] }
def AstFilesSaid : Prop := astFilesRow.holds Tryz.pinned (OpenSpec.ofChange astFilesSpec)

/-- ITS FALSE NEIGHBOUR: 'it returns false'. Refute it at one input. -/
def astFilesWrong : ChangeSpec := { name := "astFiles", fn := fun _ => fun
  | [d1, d2, d3] => { results := [.lit (.bool false)], args := [d1, d2, d3] }
  | _ => none }
def AstFilesWrongFalsely : Prop := astFilesRow.holds Tryz.pinned (OpenSpec.ofChange astFilesWrong)

/-- 'oriellaw08.AstLooks': WHATEVER THE INPUT: true; the input reads as it did. -/
def astLooksSpec : ChangeSpec := { name := "astLooks", fn := fun _ => fun
  | [d1, d2, d3, d4] => { results := [.lit (.bool true)], args := [d1, d2, d3, d4] }
  | _ => none }
def astLooksRow : OpenClaim := { program := "ytmpmfamiegpmgaagreatdoor", sum := "cca47efb289014b5b643c93054a9a87f35b78c7b90dea70dde15be838a3dd5d6", func := "oriel/oriellaw08.AstLooks", spec := "astLooks", inPlace := ["internal/bytealg.IndexByteString"], unfollowed := true, recurses := true, named := ["oriel/name.keywords"], loops := true, apart := false, laid := [("oriel/name.keywords", laid_oriel_name_keywords)] }
def AstLooksSaid : Prop := astLooksRow.holds Tryz.pinned (OpenSpec.ofChange astLooksSpec)

/-- ITS FALSE NEIGHBOUR: 'it returns false'. Refute it at one input. -/
def astLooksWrong : ChangeSpec := { name := "astLooks", fn := fun _ => fun
  | [d1, d2, d3, d4] => { results := [.lit (.bool false)], args := [d1, d2, d3, d4] }
  | _ => none }
def AstLooksWrongFalsely : Prop := astLooksRow.holds Tryz.pinned (OpenSpec.ofChange astLooksWrong)

/-- 'oriellaw08.AstOnce': WHATEVER THE INPUT: true; the input reads as it did. -/
def astOnceSpec : ChangeSpec := { name := "astOnce", fn := fun _ => fun
  | [d1, d2, d3] => { results := [.lit (.bool true)], args := [d1, d2, d3] }
  | _ => none }
def astOnceRow : OpenClaim := { program := "ytmpmfamiegpmgaagreatdoor", sum := "cca47efb289014b5b643c93054a9a87f35b78c7b90dea70dde15be838a3dd5d6", func := "oriel/oriellaw08.AstOnce", spec := "astOnce", inPlace := ["internal/bytealg.IndexByteString"], unfollowed := true, recurses := true, named := ["oriel/name.keywords"], apart := false, laid := [("oriel/name.keywords", laid_oriel_name_keywords)] }
def AstOnceSaid : Prop := astOnceRow.holds Tryz.pinned (OpenSpec.ofChange astOnceSpec)

/-- ITS FALSE NEIGHBOUR: 'it returns false'. Refute it at one input. -/
def astOnceWrong : ChangeSpec := { name := "astOnce", fn := fun _ => fun
  | [d1, d2, d3] => { results := [.lit (.bool false)], args := [d1, d2, d3] }
  | _ => none }
def AstOnceWrongFalsely : Prop := astOnceRow.holds Tryz.pinned (OpenSpec.ofChange astOnceWrong)

/-- 'oriellaw08.AstPlaces': WHATEVER THE INPUT: true; the input reads as it did. -/
def astPlacesSpec : ChangeSpec := { name := "astPlaces", fn := fun _ => fun
  | [d1, d2] => { results := [.lit (.bool true)], args := [d1, d2] }
  | _ => none }
def astPlacesRow : OpenClaim := { program := "ytmpmfamiegpmgaagreatdoor", sum := "cca47efb289014b5b643c93054a9a87f35b78c7b90dea70dde15be838a3dd5d6", func := "oriel/oriellaw08.AstPlaces", spec := "astPlaces", inPlace := ["internal/bytealg.IndexByteString"], unfollowed := true, recurses := true, named := ["oriel/name.keywords"], apart := false, laid := [("oriel/name.keywords", laid_oriel_name_keywords)] }
def AstPlacesSaid : Prop := astPlacesRow.holds Tryz.pinned (OpenSpec.ofChange astPlacesSpec)

/-- ITS FALSE NEIGHBOUR: 'it returns false'. Refute it at one input. -/
def astPlacesWrong : ChangeSpec := { name := "astPlaces", fn := fun _ => fun
  | [d1, d2] => { results := [.lit (.bool false)], args := [d1, d2] }
  | _ => none }
def AstPlacesWrongFalsely : Prop := astPlacesRow.holds Tryz.pinned (OpenSpec.ofChange astPlacesWrong)

/-- 'oriellaw09.ShowOne': WHATEVER THE INPUT: true; the input reads as it did. -/
def showOneSpec : ChangeSpec := { name := "showOne", fn := fun _ => fun
  | [d1, d2] => { results := [.lit (.bool true)], args := [d1, d2] }
  | _ => none }
def showOneRow : OpenClaim := { program := "ytmpmfamiegpmgaagreatdoor", sum := "cca47efb289014b5b643c93054a9a87f35b78c7b90dea70dde15be838a3dd5d6", func := "oriel/oriellaw09.ShowOne", spec := "showOne", inPlace := ["internal/bytealg.IndexByteString", "internal/abi.NoEscape"], unfollowed := true, recurses := true, named := ["oriel/name.keywords"], apart := false, laid := [("oriel/name.keywords", laid_oriel_name_keywords)] }
def ShowOneSaid : Prop := showOneRow.holds Tryz.pinned (OpenSpec.ofChange showOneSpec)

/-- ITS FALSE NEIGHBOUR: 'it returns false'. Refute it at one input. -/
def showOneWrong : ChangeSpec := { name := "showOne", fn := fun _ => fun
  | [d1, d2] => { results := [.lit (.bool false)], args := [d1, d2] }
  | _ => none }
def ShowOneWrongFalsely : Prop := showOneRow.holds Tryz.pinned (OpenSpec.ofChange showOneWrong)

/-- 'oriellaw09.ShowAny': WHATEVER THE INPUT: true; the input reads as it did. -/
def showAnySpec : ChangeSpec := { name := "showAny", fn := fun _ => fun
  | [d1, d2, d3] => { results := [.lit (.bool true)], args := [d1, d2, d3] }
  | _ => none }
def showAnyRow : OpenClaim := { program := "ytmpmfamiegpmgaagreatdoor", sum := "cca47efb289014b5b643c93054a9a87f35b78c7b90dea70dde15be838a3dd5d6", func := "oriel/oriellaw09.ShowAny", spec := "showAny", inPlace := ["internal/bytealg.IndexByteString", "internal/abi.NoEscape"], unfollowed := true, recurses := true, named := ["oriel/name.keywords"], loops := true, apart := false, laid := [("oriel/name.keywords", laid_oriel_name_keywords)] }
def ShowAnySaid : Prop := showAnyRow.holds Tryz.pinned (OpenSpec.ofChange showAnySpec)

/-- ITS FALSE NEIGHBOUR: 'it returns false'. Refute it at one input. -/
def showAnyWrong : ChangeSpec := { name := "showAny", fn := fun _ => fun
  | [d1, d2, d3] => { results := [.lit (.bool false)], args := [d1, d2, d3] }
  | _ => none }
def ShowAnyWrongFalsely : Prop := showAnyRow.holds Tryz.pinned (OpenSpec.ofChange showAnyWrong)

/-- 'oriellaw09.ShowParens': WHATEVER THE INPUT: true; the input reads as it did. -/
def showParensSpec : ChangeSpec := { name := "showParens", fn := fun _ => fun
  | [d1, d2] => { results := [.lit (.bool true)], args := [d1, d2] }
  | _ => none }
def showParensRow : OpenClaim := { program := "ytmpmfamiegpmgaagreatdoor", sum := "cca47efb289014b5b643c93054a9a87f35b78c7b90dea70dde15be838a3dd5d6", func := "oriel/oriellaw09.ShowParens", spec := "showParens", inPlace := ["internal/bytealg.IndexByteString", "internal/abi.NoEscape"], unfollowed := true, recurses := true, named := ["oriel/name.keywords"], apart := false, laid := [("oriel/name.keywords", laid_oriel_name_keywords)] }
def ShowParensSaid : Prop := showParensRow.holds Tryz.pinned (OpenSpec.ofChange showParensSpec)

/-- ITS FALSE NEIGHBOUR: 'it returns false'. Refute it at one input. -/
def showParensWrong : ChangeSpec := { name := "showParens", fn := fun _ => fun
  | [d1, d2] => { results := [.lit (.bool false)], args := [d1, d2] }
  | _ => none }
def ShowParensWrongFalsely : Prop := showParensRow.holds Tryz.pinned (OpenSpec.ofChange showParensWrong)

/-- 'oriellaw10.UnitLoads': WHATEVER THE INPUT: true; the input reads as it did. -/
def unitLoadsSpec : ChangeSpec := { name := "unitLoads", fn := fun _ => fun
  | [d1, d2, d3] => { results := [.lit (.bool true)], args := [d1, d2, d3] }
  | _ => none }
def unitLoadsRow : OpenClaim := { program := "ytmpmfamiegpmgaagreatdoor", sum := "cca47efb289014b5b643c93054a9a87f35b78c7b90dea70dde15be838a3dd5d6", func := "oriel/oriellaw10.UnitLoads", spec := "unitLoads", inPlace := ["internal/bytealg.IndexByteString"], unfollowed := true, recurses := true, named := ["oriel/name.keywords"], apart := false, laid := [("oriel/name.keywords", laid_oriel_name_keywords)] }
def UnitLoadsSaid : Prop := unitLoadsRow.holds Tryz.pinned (OpenSpec.ofChange unitLoadsSpec)

/-- ITS FALSE NEIGHBOUR: 'it returns false'. Refute it at one input. -/
def unitLoadsWrong : ChangeSpec := { name := "unitLoads", fn := fun _ => fun
  | [d1, d2, d3] => { results := [.lit (.bool false)], args := [d1, d2, d3] }
  | _ => none }
def UnitLoadsWrongFalsely : Prop := unitLoadsRow.holds Tryz.pinned (OpenSpec.ofChange unitLoadsWrong)

/-- 'oriellaw10.UnitRises': WHATEVER THE INPUT: true; the input reads as it did. -/
def unitRisesSpec : ChangeSpec := { name := "unitRises", fn := fun _ => fun
  | [d] => { results := [.lit (.bool true)], args := [d] }
  | _ => none }
def unitRisesRow : OpenClaim := { program := "ytmpmfamiegpmgaagreatdoor", sum := "cca47efb289014b5b643c93054a9a87f35b78c7b90dea70dde15be838a3dd5d6", func := "oriel/oriellaw10.UnitRises", spec := "unitRises", inPlace := ["internal/bytealg.IndexByteString"], unfollowed := true, recurses := true, named := ["oriel/name.keywords"], apart := false, laid := [("oriel/name.keywords", laid_oriel_name_keywords)] }
def UnitRisesSaid : Prop := unitRisesRow.holds Tryz.pinned (OpenSpec.ofChange unitRisesSpec)

/-- ITS FALSE NEIGHBOUR: 'it returns false'. Refute it at one input. -/
def unitRisesWrong : ChangeSpec := { name := "unitRises", fn := fun _ => fun
  | [d] => { results := [.lit (.bool false)], args := [d] }
  | _ => none }
def UnitRisesWrongFalsely : Prop := unitRisesRow.holds Tryz.pinned (OpenSpec.ofChange unitRisesWrong)

/-- 'oriellaw10.UnitKeeps': WHATEVER THE INPUT: true; the input reads as it did. -/
def unitKeepsSpec : ChangeSpec := { name := "unitKeeps", fn := fun _ => fun
  | [d] => { results := [.lit (.bool true)], args := [d] }
  | _ => none }
def unitKeepsRow : OpenClaim := { program := "ytmpmfamiegpmgaagreatdoor", sum := "cca47efb289014b5b643c93054a9a87f35b78c7b90dea70dde15be838a3dd5d6", func := "oriel/oriellaw10.UnitKeeps", spec := "unitKeeps", inPlace := ["internal/bytealg.IndexByteString"], unfollowed := true, recurses := true, named := ["oriel/name.keywords"], apart := false, laid := [("oriel/name.keywords", laid_oriel_name_keywords)] }
def UnitKeepsSaid : Prop := unitKeepsRow.holds Tryz.pinned (OpenSpec.ofChange unitKeepsSpec)

/-- ITS FALSE NEIGHBOUR: 'it returns false'. Refute it at one input. -/
def unitKeepsWrong : ChangeSpec := { name := "unitKeeps", fn := fun _ => fun
  | [d] => { results := [.lit (.bool false)], args := [d] }
  | _ => none }
def UnitKeepsWrongFalsely : Prop := unitKeepsRow.holds Tryz.pinned (OpenSpec.ofChange unitKeepsWrong)

/-- 'oriellaw10.UnitMany': WHATEVER THE INPUT: true; the input reads as it did. -/
def unitManySpec : ChangeSpec := { name := "unitMany", fn := fun _ => fun
  | [d1, d2, d3] => { results := [.lit (.bool true)], args := [d1, d2, d3] }
  | _ => none }
def unitManyRow : OpenClaim := { program := "ytmpmfamiegpmgaagreatdoor", sum := "cca47efb289014b5b643c93054a9a87f35b78c7b90dea70dde15be838a3dd5d6", func := "oriel/oriellaw10.UnitMany", spec := "unitMany", inPlace := ["internal/bytealg.IndexByteString"], unfollowed := true, recurses := true, named := ["oriel/name.keywords"], apart := false, laid := [("oriel/name.keywords", laid_oriel_name_keywords)] }
def UnitManySaid : Prop := unitManyRow.holds Tryz.pinned (OpenSpec.ofChange unitManySpec)

/-- ITS FALSE NEIGHBOUR: 'it returns false'. Refute it at one input. -/
def unitManyWrong : ChangeSpec := { name := "unitMany", fn := fun _ => fun
  | [d1, d2, d3] => { results := [.lit (.bool false)], args := [d1, d2, d3] }
  | _ => none }
def UnitManyWrongFalsely : Prop := unitManyRow.holds Tryz.pinned (OpenSpec.ofChange unitManyWrong)

/-- 'oriellaw10.UnitNil': WHATEVER THE INPUT: true; the input reads as it did. -/
def unitNilSpec : ChangeSpec := { name := "unitNil", fn := fun _ => fun
  | [d1, d2] => { results := [.lit (.bool true)], args := [d1, d2] }
  | _ => none }
def unitNilRow : OpenClaim := { program := "ytmpmfamiegpmgaagreatdoor", sum := "cca47efb289014b5b643c93054a9a87f35b78c7b90dea70dde15be838a3dd5d6", func := "oriel/oriellaw10.UnitNil", spec := "unitNil", inPlace := ["internal/bytealg.IndexByteString"], unfollowed := true, recurses := true, named := ["oriel/name.keywords"], apart := false, laid := [("oriel/name.keywords", laid_oriel_name_keywords)] }
def UnitNilSaid : Prop := unitNilRow.holds Tryz.pinned (OpenSpec.ofChange unitNilSpec)

/-- ITS FALSE NEIGHBOUR: 'it returns false'. Refute it at one input. -/
def unitNilWrong : ChangeSpec := { name := "unitNil", fn := fun _ => fun
  | [d1, d2] => { results := [.lit (.bool false)], args := [d1, d2] }
  | _ => none }
def UnitNilWrongFalsely : Prop := unitNilRow.holds Tryz.pinned (OpenSpec.ofChange unitNilWrong)

/-- 'oriellaw10.UnitJoins': WHATEVER THE INPUT: true; the input reads as it did. -/
def unitJoinsSpec : ChangeSpec := { name := "unitJoins", fn := fun _ => fun
  | [d1, d2] => { results := [.lit (.bool true)], args := [d1, d2] }
  | _ => none }
def unitJoinsRow : OpenClaim := { program := "ytmpmfamiegpmgaagreatdoor", sum := "cca47efb289014b5b643c93054a9a87f35b78c7b90dea70dde15be838a3dd5d6", func := "oriel/oriellaw10.UnitJoins", spec := "unitJoins", inPlace := ["internal/bytealg.IndexByteString"], unfollowed := true, recurses := true, named := ["oriel/name.keywords"], apart := false, laid := [("oriel/name.keywords", laid_oriel_name_keywords)] }
def UnitJoinsSaid : Prop := unitJoinsRow.holds Tryz.pinned (OpenSpec.ofChange unitJoinsSpec)

/-- ITS FALSE NEIGHBOUR: 'it returns false'. Refute it at one input. -/
def unitJoinsWrong : ChangeSpec := { name := "unitJoins", fn := fun _ => fun
  | [d1, d2] => { results := [.lit (.bool false)], args := [d1, d2] }
  | _ => none }
def UnitJoinsWrongFalsely : Prop := unitJoinsRow.holds Tryz.pinned (OpenSpec.ofChange unitJoinsWrong)

/- THE SECOND FORM. 'bulk': how many values and letters a reading holds, each counted each time it is reached (what is shared counts as often as it is met; a slice's spare places count too). A statement '..UptoSaid' is the law's where the arguments, and the package variables that the reading takes, are together of bulk at most 1048576: NARROWER than '..Said'. Prove '..Said' where nothing that the law and all that it calls make is longer than what came in: it says more and counts as full. Else prove '..UptoSaid'. A law counts once. -/
mutual
def uptoBulk {H : Type} : DataW H → Nat
  | .lit (.string bytes) => bytes.length + 1
  | .lit _ => 1
  | .nil => 1
  | .ptr d => uptoBulk d + 1
  | .slice elems spare => uptoBulkAll elems + uptoBulkAll spare + 1
  | .agg parts => uptoBulkAll parts + 1
  | .iface _ d => uptoBulk d + 1
  | .map entries => uptoBulkEntries entries + 1
  | .held _ => 1
def uptoBulkAll {H : Type} : List (DataW H) → Nat
  | [] => 0
  | d :: r => uptoBulk d + uptoBulkAll r
def uptoBulkEntries {H : Type} : List (Lit × DataW H) → Nat
  | [] => 0
  | x :: r => uptoBulkEntry x + uptoBulkEntries r
def uptoBulkEntry {H : Type} : Lit × DataW H → Nat
  | (.string bytes, d) => bytes.length + uptoBulk d + 1
  | (_, d) => uptoBulk d + 1
 end
def uptoSmall : (H : Type) → List (DataW H) → Bool := fun _ ds => decide (uptoBulkAll ds ≤ 1048576)
def OpenSpec.upto (s : _root_.Go.ChangeSpec) : _root_.Go.OpenSpec := { _root_.Go.OpenSpec.ofChange s with cond := some uptoSmall }

/-- 'oriellaw08.AstFiles', WHERE WHAT IT READS IS OF BULK AT MOST 1048576: true; the input reads as it did. -/
def astFilesUptoRow : OpenClaim := { program := "ytmpmfamiegpmgaagreatdoor", sum := "cca47efb289014b5b643c93054a9a87f35b78c7b90dea70dde15be838a3dd5d6", func := "oriel/oriellaw08.AstFiles", spec := "astFiles", inPlace := ["internal/bytealg.IndexByteString"], unfollowed := true, recurses := true, named := ["oriel/name.keywords"], apart := false, laid := [("oriel/name.keywords", laid_oriel_name_keywords)], narrowed := true }
def AstFilesUptoSaid : Prop := astFilesUptoRow.holds Tryz.pinned (OpenSpec.upto astFilesSpec)

/-- 'oriellaw08.AstLooks', WHERE WHAT IT READS IS OF BULK AT MOST 1048576: true; the input reads as it did. -/
def astLooksUptoRow : OpenClaim := { program := "ytmpmfamiegpmgaagreatdoor", sum := "cca47efb289014b5b643c93054a9a87f35b78c7b90dea70dde15be838a3dd5d6", func := "oriel/oriellaw08.AstLooks", spec := "astLooks", inPlace := ["internal/bytealg.IndexByteString"], unfollowed := true, recurses := true, named := ["oriel/name.keywords"], loops := true, apart := false, laid := [("oriel/name.keywords", laid_oriel_name_keywords)], narrowed := true }
def AstLooksUptoSaid : Prop := astLooksUptoRow.holds Tryz.pinned (OpenSpec.upto astLooksSpec)

/-- 'oriellaw08.AstOnce', WHERE WHAT IT READS IS OF BULK AT MOST 1048576: true; the input reads as it did. -/
def astOnceUptoRow : OpenClaim := { program := "ytmpmfamiegpmgaagreatdoor", sum := "cca47efb289014b5b643c93054a9a87f35b78c7b90dea70dde15be838a3dd5d6", func := "oriel/oriellaw08.AstOnce", spec := "astOnce", inPlace := ["internal/bytealg.IndexByteString"], unfollowed := true, recurses := true, named := ["oriel/name.keywords"], apart := false, laid := [("oriel/name.keywords", laid_oriel_name_keywords)], narrowed := true }
def AstOnceUptoSaid : Prop := astOnceUptoRow.holds Tryz.pinned (OpenSpec.upto astOnceSpec)

/-- 'oriellaw08.AstPlaces', WHERE WHAT IT READS IS OF BULK AT MOST 1048576: true; the input reads as it did. -/
def astPlacesUptoRow : OpenClaim := { program := "ytmpmfamiegpmgaagreatdoor", sum := "cca47efb289014b5b643c93054a9a87f35b78c7b90dea70dde15be838a3dd5d6", func := "oriel/oriellaw08.AstPlaces", spec := "astPlaces", inPlace := ["internal/bytealg.IndexByteString"], unfollowed := true, recurses := true, named := ["oriel/name.keywords"], apart := false, laid := [("oriel/name.keywords", laid_oriel_name_keywords)], narrowed := true }
def AstPlacesUptoSaid : Prop := astPlacesUptoRow.holds Tryz.pinned (OpenSpec.upto astPlacesSpec)

/-- 'oriellaw09.ShowOne', WHERE WHAT IT READS IS OF BULK AT MOST 1048576: true; the input reads as it did. -/
def showOneUptoRow : OpenClaim := { program := "ytmpmfamiegpmgaagreatdoor", sum := "cca47efb289014b5b643c93054a9a87f35b78c7b90dea70dde15be838a3dd5d6", func := "oriel/oriellaw09.ShowOne", spec := "showOne", inPlace := ["internal/bytealg.IndexByteString", "internal/abi.NoEscape"], unfollowed := true, recurses := true, named := ["oriel/name.keywords"], apart := false, laid := [("oriel/name.keywords", laid_oriel_name_keywords)], narrowed := true }
def ShowOneUptoSaid : Prop := showOneUptoRow.holds Tryz.pinned (OpenSpec.upto showOneSpec)

/-- 'oriellaw09.ShowAny', WHERE WHAT IT READS IS OF BULK AT MOST 1048576: true; the input reads as it did. -/
def showAnyUptoRow : OpenClaim := { program := "ytmpmfamiegpmgaagreatdoor", sum := "cca47efb289014b5b643c93054a9a87f35b78c7b90dea70dde15be838a3dd5d6", func := "oriel/oriellaw09.ShowAny", spec := "showAny", inPlace := ["internal/bytealg.IndexByteString", "internal/abi.NoEscape"], unfollowed := true, recurses := true, named := ["oriel/name.keywords"], loops := true, apart := false, laid := [("oriel/name.keywords", laid_oriel_name_keywords)], narrowed := true }
def ShowAnyUptoSaid : Prop := showAnyUptoRow.holds Tryz.pinned (OpenSpec.upto showAnySpec)

/-- 'oriellaw09.ShowParens', WHERE WHAT IT READS IS OF BULK AT MOST 1048576: true; the input reads as it did. -/
def showParensUptoRow : OpenClaim := { program := "ytmpmfamiegpmgaagreatdoor", sum := "cca47efb289014b5b643c93054a9a87f35b78c7b90dea70dde15be838a3dd5d6", func := "oriel/oriellaw09.ShowParens", spec := "showParens", inPlace := ["internal/bytealg.IndexByteString", "internal/abi.NoEscape"], unfollowed := true, recurses := true, named := ["oriel/name.keywords"], apart := false, laid := [("oriel/name.keywords", laid_oriel_name_keywords)], narrowed := true }
def ShowParensUptoSaid : Prop := showParensUptoRow.holds Tryz.pinned (OpenSpec.upto showParensSpec)

/-- 'oriellaw10.UnitLoads', WHERE WHAT IT READS IS OF BULK AT MOST 1048576: true; the input reads as it did. -/
def unitLoadsUptoRow : OpenClaim := { program := "ytmpmfamiegpmgaagreatdoor", sum := "cca47efb289014b5b643c93054a9a87f35b78c7b90dea70dde15be838a3dd5d6", func := "oriel/oriellaw10.UnitLoads", spec := "unitLoads", inPlace := ["internal/bytealg.IndexByteString"], unfollowed := true, recurses := true, named := ["oriel/name.keywords"], apart := false, laid := [("oriel/name.keywords", laid_oriel_name_keywords)], narrowed := true }
def UnitLoadsUptoSaid : Prop := unitLoadsUptoRow.holds Tryz.pinned (OpenSpec.upto unitLoadsSpec)

/-- 'oriellaw10.UnitRises', WHERE WHAT IT READS IS OF BULK AT MOST 1048576: true; the input reads as it did. -/
def unitRisesUptoRow : OpenClaim := { program := "ytmpmfamiegpmgaagreatdoor", sum := "cca47efb289014b5b643c93054a9a87f35b78c7b90dea70dde15be838a3dd5d6", func := "oriel/oriellaw10.UnitRises", spec := "unitRises", inPlace := ["internal/bytealg.IndexByteString"], unfollowed := true, recurses := true, named := ["oriel/name.keywords"], apart := false, laid := [("oriel/name.keywords", laid_oriel_name_keywords)], narrowed := true }
def UnitRisesUptoSaid : Prop := unitRisesUptoRow.holds Tryz.pinned (OpenSpec.upto unitRisesSpec)

/-- 'oriellaw10.UnitKeeps', WHERE WHAT IT READS IS OF BULK AT MOST 1048576: true; the input reads as it did. -/
def unitKeepsUptoRow : OpenClaim := { program := "ytmpmfamiegpmgaagreatdoor", sum := "cca47efb289014b5b643c93054a9a87f35b78c7b90dea70dde15be838a3dd5d6", func := "oriel/oriellaw10.UnitKeeps", spec := "unitKeeps", inPlace := ["internal/bytealg.IndexByteString"], unfollowed := true, recurses := true, named := ["oriel/name.keywords"], apart := false, laid := [("oriel/name.keywords", laid_oriel_name_keywords)], narrowed := true }
def UnitKeepsUptoSaid : Prop := unitKeepsUptoRow.holds Tryz.pinned (OpenSpec.upto unitKeepsSpec)

/-- 'oriellaw10.UnitMany', WHERE WHAT IT READS IS OF BULK AT MOST 1048576: true; the input reads as it did. -/
def unitManyUptoRow : OpenClaim := { program := "ytmpmfamiegpmgaagreatdoor", sum := "cca47efb289014b5b643c93054a9a87f35b78c7b90dea70dde15be838a3dd5d6", func := "oriel/oriellaw10.UnitMany", spec := "unitMany", inPlace := ["internal/bytealg.IndexByteString"], unfollowed := true, recurses := true, named := ["oriel/name.keywords"], apart := false, laid := [("oriel/name.keywords", laid_oriel_name_keywords)], narrowed := true }
def UnitManyUptoSaid : Prop := unitManyUptoRow.holds Tryz.pinned (OpenSpec.upto unitManySpec)

/-- 'oriellaw10.UnitNil', WHERE WHAT IT READS IS OF BULK AT MOST 1048576: true; the input reads as it did. -/
def unitNilUptoRow : OpenClaim := { program := "ytmpmfamiegpmgaagreatdoor", sum := "cca47efb289014b5b643c93054a9a87f35b78c7b90dea70dde15be838a3dd5d6", func := "oriel/oriellaw10.UnitNil", spec := "unitNil", inPlace := ["internal/bytealg.IndexByteString"], unfollowed := true, recurses := true, named := ["oriel/name.keywords"], apart := false, laid := [("oriel/name.keywords", laid_oriel_name_keywords)], narrowed := true }
def UnitNilUptoSaid : Prop := unitNilUptoRow.holds Tryz.pinned (OpenSpec.upto unitNilSpec)

/-- 'oriellaw10.UnitJoins', WHERE WHAT IT READS IS OF BULK AT MOST 1048576: true; the input reads as it did. -/
def unitJoinsUptoRow : OpenClaim := { program := "ytmpmfamiegpmgaagreatdoor", sum := "cca47efb289014b5b643c93054a9a87f35b78c7b90dea70dde15be838a3dd5d6", func := "oriel/oriellaw10.UnitJoins", spec := "unitJoins", inPlace := ["internal/bytealg.IndexByteString"], unfollowed := true, recurses := true, named := ["oriel/name.keywords"], apart := false, laid := [("oriel/name.keywords", laid_oriel_name_keywords)], narrowed := true }
def UnitJoinsUptoSaid : Prop := unitJoinsUptoRow.holds Tryz.pinned (OpenSpec.upto unitJoinsSpec)

end Rows
end Go.Proofs.YtmpmfamiegpmgaaGreatDoor
