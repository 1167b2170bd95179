/-
  NARROWER THAN 'FOR EVERY INPUT', by the rows' own cells (each row's printed sentence says how): LexWhole: laid · LexAgain: laid · LexParted: laid · LexNotes: laid.
  DERIVED. THE GIVEN ROWS OF THIS SEAT. 4 by the template 'for every input the law returns true; each argument reads behind the call as it read before'; 0 by the template 'total and deterministic' (their statements: YtnkgmddaodbpcaaDoorTotals.lean).
  GIVEN WITH THE SEED: the statements are not yours to turn. If you find one false, say at which input.
  Laid BY PROGRAM, IN A SANDBOX (cutbox-rows.mjs): the forced cells as the released guide's own fill.sh prints them over the translation 888a769323173a21… (all of the seat's roots in one cut). By AI agents, Wed Nov 11 2026. No macro, syntax, notation, axiom, sorry.
-/
import Derived.Test.YtnkgmddaodbpcaaDoorChecked
import GoSem.Claim
import GoSem.ClaimJoined
import GoSem.ClaimMapViews
import Derived.JoinedTies
import Derived.KernelRfl
namespace Go.Proofs.YtnkgmddaodbpcaaDoor
/- THE CELL 'sum', in the pinned program and in every row, IS THE sha256 OF THE DUMP (.gsa) THAT YtnkgmddaodbpcaaDoorProg.lean LOADS. Nothing in Lean hashes anything: it is a label: what it is worth is what the hold of that sum in a sandbox is worth. -/
noncomputable def Tryd.pinned : Pinned := { name := "ytnkgmddaodbpcaadoor", sum := "888a769323173a21c159e20ba45a5f5c6e9168905879b94549346cbdf4faceec", checked := Tryd.checked }
namespace Rows
def none {H : Type} : Left H := { results := [], args := [] }

/- WHAT THE LISTED PACKAGE-LEVEL VARIABLES READ AS WHEN THE CALL BEGINS. Each datum BY PROGRAM (the guide's laid-datum.mjs) off the statement by which the dump's own 'gosem.cut.vars' lays the variable. In a bare row this is a premise. The card (YtnkgmddaodbpcaaDoorCards.lean) ties it to the program's text. -/
def laid_oriel_name_keywords {H : Type} : DataW H := .agg [.lit (.string [97, 110, 100]), .lit (.string [97, 115]), .lit (.string [99, 97, 115, 101]), .lit (.string [100, 97, 116, 97, 116, 121, 112, 101]), .lit (.string [101, 108, 115, 101]), .lit (.string [101, 110, 100]), .lit (.string [102, 110]), .lit (.string [102, 117, 110]), .lit (.string [102, 117, 110, 99, 116, 111, 114]), .lit (.string [105, 102]), .lit (.string [105, 110]), .lit (.string [105, 110, 99, 108, 117, 100, 101]), .lit (.string [108, 101, 116]), .lit (.string [108, 111, 99, 97, 108]), .lit (.string [111, 102]), .lit (.string [111, 112]), .lit (.string [111, 112, 101, 110]), .lit (.string [115, 105, 103]), .lit (.string [115, 105, 103, 110, 97, 116, 117, 114, 101]), .lit (.string [115, 116, 114, 117, 99, 116]), .lit (.string [115, 116, 114, 117, 99, 116, 117, 114, 101]), .lit (.string [116, 104, 101, 110]), .lit (.string [116, 121, 112, 101]), .lit (.string [118, 97, 108]), .lit (.string [119, 104, 101, 114, 101])]

/-- 'oriellaw05.LexWhole': WHATEVER THE INPUT: true; the input reads as it did. -/
def lexWholeSpec : ChangeSpec := { name := "lexWhole", fn := fun _ => fun
  | [d] => { results := [.lit (.bool true)], args := [d] }
  | _ => none }
def lexWholeRow : OpenClaim := { program := "ytnkgmddaodbpcaadoor", sum := "888a769323173a21c159e20ba45a5f5c6e9168905879b94549346cbdf4faceec", func := "oriel/oriellaw05.LexWhole", spec := "lexWhole", inPlace := ["internal/bytealg.IndexByteString"], unfollowed := true, recurses := true, named := ["oriel/name.keywords"], apart := false, laid := [("oriel/name.keywords", laid_oriel_name_keywords)] }
def LexWholeSaid : Prop := lexWholeRow.holds Tryd.pinned (OpenSpec.ofChange lexWholeSpec)

/-- ITS FALSE NEIGHBOUR: 'it returns false'. Refute it at one input. -/
def lexWholeWrong : ChangeSpec := { name := "lexWhole", fn := fun _ => fun
  | [d] => { results := [.lit (.bool false)], args := [d] }
  | _ => none }
def LexWholeWrongFalsely : Prop := lexWholeRow.holds Tryd.pinned (OpenSpec.ofChange lexWholeWrong)

/-- 'oriellaw05.LexAgain': WHATEVER THE INPUT: true; the input reads as it did. -/
def lexAgainSpec : ChangeSpec := { name := "lexAgain", fn := fun _ => fun
  | [d] => { results := [.lit (.bool true)], args := [d] }
  | _ => none }
def lexAgainRow : OpenClaim := { program := "ytnkgmddaodbpcaadoor", sum := "888a769323173a21c159e20ba45a5f5c6e9168905879b94549346cbdf4faceec", func := "oriel/oriellaw05.LexAgain", spec := "lexAgain", inPlace := ["internal/bytealg.IndexByteString"], unfollowed := true, recurses := true, named := ["oriel/name.keywords"], apart := false, laid := [("oriel/name.keywords", laid_oriel_name_keywords)] }
def LexAgainSaid : Prop := lexAgainRow.holds Tryd.pinned (OpenSpec.ofChange lexAgainSpec)

/-- ITS FALSE NEIGHBOUR: 'it returns false'. Refute it at one input. -/
def lexAgainWrong : ChangeSpec := { name := "lexAgain", fn := fun _ => fun
  | [d] => { results := [.lit (.bool false)], args := [d] }
  | _ => none }
def LexAgainWrongFalsely : Prop := lexAgainRow.holds Tryd.pinned (OpenSpec.ofChange lexAgainWrong)

/-- 'oriellaw05.LexParted': WHATEVER THE INPUT: true; the input reads as it did. -/
def lexPartedSpec : ChangeSpec := { name := "lexParted", fn := fun _ => fun
  | [d1, d2] => { results := [.lit (.bool true)], args := [d1, d2] }
  | _ => none }
def lexPartedRow : OpenClaim := { program := "ytnkgmddaodbpcaadoor", sum := "888a769323173a21c159e20ba45a5f5c6e9168905879b94549346cbdf4faceec", func := "oriel/oriellaw05.LexParted", spec := "lexParted", inPlace := ["internal/bytealg.IndexByteString"], unfollowed := true, recurses := true, named := ["oriel/name.keywords"], apart := false, laid := [("oriel/name.keywords", laid_oriel_name_keywords)] }
def LexPartedSaid : Prop := lexPartedRow.holds Tryd.pinned (OpenSpec.ofChange lexPartedSpec)

/-- ITS FALSE NEIGHBOUR: 'it returns false'. Refute it at one input. -/
def lexPartedWrong : ChangeSpec := { name := "lexParted", fn := fun _ => fun
  | [d1, d2] => { results := [.lit (.bool false)], args := [d1, d2] }
  | _ => none }
def LexPartedWrongFalsely : Prop := lexPartedRow.holds Tryd.pinned (OpenSpec.ofChange lexPartedWrong)

/-- 'oriellaw05.LexNotes': WHATEVER THE INPUT: true; the input reads as it did. -/
def lexNotesSpec : ChangeSpec := { name := "lexNotes", fn := fun _ => fun
  | [d1, d2] => { results := [.lit (.bool true)], args := [d1, d2] }
  | _ => none }
def lexNotesRow : OpenClaim := { program := "ytnkgmddaodbpcaadoor", sum := "888a769323173a21c159e20ba45a5f5c6e9168905879b94549346cbdf4faceec", func := "oriel/oriellaw05.LexNotes", spec := "lexNotes", inPlace := ["internal/bytealg.IndexByteString"], unfollowed := true, recurses := true, named := ["oriel/name.keywords"], apart := false, laid := [("oriel/name.keywords", laid_oriel_name_keywords)] }
def LexNotesSaid : Prop := lexNotesRow.holds Tryd.pinned (OpenSpec.ofChange lexNotesSpec)

/-- ITS FALSE NEIGHBOUR: 'it returns false'. Refute it at one input. -/
def lexNotesWrong : ChangeSpec := { name := "lexNotes", fn := fun _ => fun
  | [d1, d2] => { results := [.lit (.bool false)], args := [d1, d2] }
  | _ => none }
def LexNotesWrongFalsely : Prop := lexNotesRow.holds Tryd.pinned (OpenSpec.ofChange lexNotesWrong)

/- THE SECOND FORM. 'bulk': how many values and letters a reading holds, each counted each time it is reached (what is shared counts as often as it is met; a slice's spare places count too). A statement '..UptoSaid' is the law's where the arguments, and the package variables that the reading takes, are together of bulk at most 1048576: NARROWER than '..Said'. Prove '..Said' where nothing that the law and all that it calls make is longer than what came in: it says more and counts as full. Else prove '..UptoSaid'. A law counts once. -/
mutual
def uptoBulk {H : Type} : DataW H → Nat
  | .lit (.string bytes) => bytes.length + 1
  | .lit _ => 1
  | .nil => 1
  | .ptr d => uptoBulk d + 1
  | .slice elems spare => uptoBulkAll elems + uptoBulkAll spare + 1
  | .agg parts => uptoBulkAll parts + 1
  | .iface _ d => uptoBulk d + 1
  | .map entries => uptoBulkEntries entries + 1
  | .held _ => 1
def uptoBulkAll {H : Type} : List (DataW H) → Nat
  | [] => 0
  | d :: r => uptoBulk d + uptoBulkAll r
def uptoBulkEntries {H : Type} : List (Lit × DataW H) → Nat
  | [] => 0
  | x :: r => uptoBulkEntry x + uptoBulkEntries r
def uptoBulkEntry {H : Type} : Lit × DataW H → Nat
  | (.string bytes, d) => bytes.length + uptoBulk d + 1
  | (_, d) => uptoBulk d + 1
 end
def uptoSmall : (H : Type) → List (DataW H) → Bool := fun _ ds => decide (uptoBulkAll ds ≤ 1048576)
def OpenSpec.upto (s : _root_.Go.ChangeSpec) : _root_.Go.OpenSpec := { _root_.Go.OpenSpec.ofChange s with cond := some uptoSmall }

/-- 'oriellaw05.LexWhole', WHERE WHAT IT READS IS OF BULK AT MOST 1048576: true; the input reads as it did. -/
def lexWholeUptoRow : OpenClaim := { program := "ytnkgmddaodbpcaadoor", sum := "888a769323173a21c159e20ba45a5f5c6e9168905879b94549346cbdf4faceec", func := "oriel/oriellaw05.LexWhole", spec := "lexWhole", inPlace := ["internal/bytealg.IndexByteString"], unfollowed := true, recurses := true, named := ["oriel/name.keywords"], apart := false, laid := [("oriel/name.keywords", laid_oriel_name_keywords)], narrowed := true }
def LexWholeUptoSaid : Prop := lexWholeUptoRow.holds Tryd.pinned (OpenSpec.upto lexWholeSpec)

/-- 'oriellaw05.LexAgain', WHERE WHAT IT READS IS OF BULK AT MOST 1048576: true; the input reads as it did. -/
def lexAgainUptoRow : OpenClaim := { program := "ytnkgmddaodbpcaadoor", sum := "888a769323173a21c159e20ba45a5f5c6e9168905879b94549346cbdf4faceec", func := "oriel/oriellaw05.LexAgain", spec := "lexAgain", inPlace := ["internal/bytealg.IndexByteString"], unfollowed := true, recurses := true, named := ["oriel/name.keywords"], apart := false, laid := [("oriel/name.keywords", laid_oriel_name_keywords)], narrowed := true }
def LexAgainUptoSaid : Prop := lexAgainUptoRow.holds Tryd.pinned (OpenSpec.upto lexAgainSpec)

/-- 'oriellaw05.LexParted', WHERE WHAT IT READS IS OF BULK AT MOST 1048576: true; the input reads as it did. -/
def lexPartedUptoRow : OpenClaim := { program := "ytnkgmddaodbpcaadoor", sum := "888a769323173a21c159e20ba45a5f5c6e9168905879b94549346cbdf4faceec", func := "oriel/oriellaw05.LexParted", spec := "lexParted", inPlace := ["internal/bytealg.IndexByteString"], unfollowed := true, recurses := true, named := ["oriel/name.keywords"], apart := false, laid := [("oriel/name.keywords", laid_oriel_name_keywords)], narrowed := true }
def LexPartedUptoSaid : Prop := lexPartedUptoRow.holds Tryd.pinned (OpenSpec.upto lexPartedSpec)

/-- 'oriellaw05.LexNotes', WHERE WHAT IT READS IS OF BULK AT MOST 1048576: true; the input reads as it did. -/
def lexNotesUptoRow : OpenClaim := { program := "ytnkgmddaodbpcaadoor", sum := "888a769323173a21c159e20ba45a5f5c6e9168905879b94549346cbdf4faceec", func := "oriel/oriellaw05.LexNotes", spec := "lexNotes", inPlace := ["internal/bytealg.IndexByteString"], unfollowed := true, recurses := true, named := ["oriel/name.keywords"], apart := false, laid := [("oriel/name.keywords", laid_oriel_name_keywords)], narrowed := true }
def LexNotesUptoSaid : Prop := lexNotesUptoRow.holds Tryd.pinned (OpenSpec.upto lexNotesSpec)

end Rows
end Go.Proofs.YtnkgmddaodbpcaaDoor
