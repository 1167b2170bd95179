/-
  No cell of these rows narrows 'for every input' (looked for: loops, veiled, ifaces, maps, wideKeys, modest, calm, conditions, laid).
  DERIVED. THE GIVEN ROWS OF THIS SEAT. 7 by the template 'for every input the law returns true; each argument reads behind the call as it read before'; 0 by the template 'total and deterministic' (their statements: YtlfnefgcndhomaaTotals.lean).
  GIVEN WITH THE SEED: the statements are not yours to turn. If you find one false, say at which input.
  Laid BY PROGRAM, IN A SANDBOX (cutbox-rows.mjs): the forced cells as the released guide's own fill.sh prints them over the translation ae4dc44e6cf4edd8… (all of the seat's roots in one cut). By AI agents, Wed Nov 11 2026. No macro, syntax, notation, axiom, sorry.
-/
import Derived.Test.YtlfnefgcndhomaaChecked
import GoSem.Claim
import GoSem.ClaimJoined
import GoSem.ClaimMapViews
import Derived.JoinedTies
import Derived.KernelRfl
namespace Go.Proofs.Ytlfnefgcndhomaa
/- THE CELL 'sum', in the pinned program and in every row, IS THE sha256 OF THE DUMP (.gsa) THAT YtlfnefgcndhomaaProg.lean LOADS. Nothing in Lean hashes anything: it is a label: what it is worth is what the hold of that sum in a sandbox is worth. -/
noncomputable def Try.pinned : Pinned := { name := "ytlfnefgcndhomaa", sum := "ae4dc44e6cf4edd8e9f5bbfa8448ae358f9bc33dd9921ff877dc5de6c24927ae", checked := Try.checked }
namespace Rows
def none {H : Type} : Left H := { results := [], args := [] }

/-- 'oriellaw03.PackPlaces': WHATEVER THE INPUT: true; the input reads as it did. -/
def packPlacesSpec : ChangeSpec := { name := "packPlaces", fn := fun _ => fun
  | [d1, d2] => { results := [.lit (.bool true)], args := [d1, d2] }
  | _ => none }
def packPlacesRow : OpenClaim := { program := "ytlfnefgcndhomaa", sum := "ae4dc44e6cf4edd8e9f5bbfa8448ae358f9bc33dd9921ff877dc5de6c24927ae", func := "oriel/oriellaw03.PackPlaces", spec := "packPlaces", apart := false }
def PackPlacesSaid : Prop := packPlacesRow.holds Try.pinned (OpenSpec.ofChange packPlacesSpec)

/-- ITS FALSE NEIGHBOUR: 'it returns false'. Refute it at one input. -/
def packPlacesWrong : ChangeSpec := { name := "packPlaces", fn := fun _ => fun
  | [d1, d2] => { results := [.lit (.bool false)], args := [d1, d2] }
  | _ => none }
def PackPlacesWrongFalsely : Prop := packPlacesRow.holds Try.pinned (OpenSpec.ofChange packPlacesWrong)

/-- 'oriellaw03.PackNumbers': WHATEVER THE INPUT: true; the input reads as it did. -/
def packNumbersSpec : ChangeSpec := { name := "packNumbers", fn := fun _ => fun
  | [d1, d2, d3] => { results := [.lit (.bool true)], args := [d1, d2, d3] }
  | _ => none }
def packNumbersRow : OpenClaim := { program := "ytlfnefgcndhomaa", sum := "ae4dc44e6cf4edd8e9f5bbfa8448ae358f9bc33dd9921ff877dc5de6c24927ae", func := "oriel/oriellaw03.PackNumbers", spec := "packNumbers", apart := false }
def PackNumbersSaid : Prop := packNumbersRow.holds Try.pinned (OpenSpec.ofChange packNumbersSpec)

/-- ITS FALSE NEIGHBOUR: 'it returns false'. Refute it at one input. -/
def packNumbersWrong : ChangeSpec := { name := "packNumbers", fn := fun _ => fun
  | [d1, d2, d3] => { results := [.lit (.bool false)], args := [d1, d2, d3] }
  | _ => none }
def PackNumbersWrongFalsely : Prop := packNumbersRow.holds Try.pinned (OpenSpec.ofChange packNumbersWrong)

/-- 'oriellaw03.PackBack': WHATEVER THE INPUT: true; the input reads as it did. -/
def packBackSpec : ChangeSpec := { name := "packBack", fn := fun _ => fun
  | [d1, d2, d3, d4] => { results := [.lit (.bool true)], args := [d1, d2, d3, d4] }
  | _ => none }
def packBackRow : OpenClaim := { program := "ytlfnefgcndhomaa", sum := "ae4dc44e6cf4edd8e9f5bbfa8448ae358f9bc33dd9921ff877dc5de6c24927ae", func := "oriel/oriellaw03.PackBack", spec := "packBack", apart := false }
def PackBackSaid : Prop := packBackRow.holds Try.pinned (OpenSpec.ofChange packBackSpec)

/-- ITS FALSE NEIGHBOUR: 'it returns false'. Refute it at one input. -/
def packBackWrong : ChangeSpec := { name := "packBack", fn := fun _ => fun
  | [d1, d2, d3, d4] => { results := [.lit (.bool false)], args := [d1, d2, d3, d4] }
  | _ => none }
def PackBackWrongFalsely : Prop := packBackRow.holds Try.pinned (OpenSpec.ofChange packBackWrong)

/-- 'oriellaw03.PackLists': WHATEVER THE INPUT: true; the input reads as it did. -/
def packListsSpec : ChangeSpec := { name := "packLists", fn := fun _ => fun
  | [d] => { results := [.lit (.bool true)], args := [d] }
  | _ => none }
def packListsRow : OpenClaim := { program := "ytlfnefgcndhomaa", sum := "ae4dc44e6cf4edd8e9f5bbfa8448ae358f9bc33dd9921ff877dc5de6c24927ae", func := "oriel/oriellaw03.PackLists", spec := "packLists", apart := false }
def PackListsSaid : Prop := packListsRow.holds Try.pinned (OpenSpec.ofChange packListsSpec)

/-- ITS FALSE NEIGHBOUR: 'it returns false'. Refute it at one input. -/
def packListsWrong : ChangeSpec := { name := "packLists", fn := fun _ => fun
  | [d] => { results := [.lit (.bool false)], args := [d] }
  | _ => none }
def PackListsWrongFalsely : Prop := packListsRow.holds Try.pinned (OpenSpec.ofChange packListsWrong)

/-- 'oriellaw03.PackHashes': WHATEVER THE INPUT: true; the input reads as it did. -/
def packHashesSpec : ChangeSpec := { name := "packHashes", fn := fun _ => fun
  | [d] => { results := [.lit (.bool true)], args := [d] }
  | _ => none }
def packHashesRow : OpenClaim := { program := "ytlfnefgcndhomaa", sum := "ae4dc44e6cf4edd8e9f5bbfa8448ae358f9bc33dd9921ff877dc5de6c24927ae", func := "oriel/oriellaw03.PackHashes", spec := "packHashes", apart := false }
def PackHashesSaid : Prop := packHashesRow.holds Try.pinned (OpenSpec.ofChange packHashesSpec)

/-- ITS FALSE NEIGHBOUR: 'it returns false'. Refute it at one input. -/
def packHashesWrong : ChangeSpec := { name := "packHashes", fn := fun _ => fun
  | [d] => { results := [.lit (.bool false)], args := [d] }
  | _ => none }
def PackHashesWrongFalsely : Prop := packHashesRow.holds Try.pinned (OpenSpec.ofChange packHashesWrong)

/-- 'oriellaw03.PackSets': WHATEVER THE INPUT: true; the input reads as it did. -/
def packSetsSpec : ChangeSpec := { name := "packSets", fn := fun _ => fun
  | [d1, d2, d3, d4] => { results := [.lit (.bool true)], args := [d1, d2, d3, d4] }
  | _ => none }
def packSetsRow : OpenClaim := { program := "ytlfnefgcndhomaa", sum := "ae4dc44e6cf4edd8e9f5bbfa8448ae358f9bc33dd9921ff877dc5de6c24927ae", func := "oriel/oriellaw03.PackSets", spec := "packSets", unfollowed := true, recurses := true, apart := false }
def PackSetsSaid : Prop := packSetsRow.holds Try.pinned (OpenSpec.ofChange packSetsSpec)

/-- ITS FALSE NEIGHBOUR: 'it returns false'. Refute it at one input. -/
def packSetsWrong : ChangeSpec := { name := "packSets", fn := fun _ => fun
  | [d1, d2, d3, d4] => { results := [.lit (.bool false)], args := [d1, d2, d3, d4] }
  | _ => none }
def PackSetsWrongFalsely : Prop := packSetsRow.holds Try.pinned (OpenSpec.ofChange packSetsWrong)

/-- 'oriellaw03.PackLaws': WHATEVER THE INPUT: true; the input reads as it did. -/
def packLawsSpec : ChangeSpec := { name := "packLaws", fn := fun _ => fun
  | [d1, d2, d3] => { results := [.lit (.bool true)], args := [d1, d2, d3] }
  | _ => none }
def packLawsRow : OpenClaim := { program := "ytlfnefgcndhomaa", sum := "ae4dc44e6cf4edd8e9f5bbfa8448ae358f9bc33dd9921ff877dc5de6c24927ae", func := "oriel/oriellaw03.PackLaws", spec := "packLaws", unfollowed := true, recurses := true, apart := false }
def PackLawsSaid : Prop := packLawsRow.holds Try.pinned (OpenSpec.ofChange packLawsSpec)

/-- ITS FALSE NEIGHBOUR: 'it returns false'. Refute it at one input. -/
def packLawsWrong : ChangeSpec := { name := "packLaws", fn := fun _ => fun
  | [d1, d2, d3] => { results := [.lit (.bool false)], args := [d1, d2, d3] }
  | _ => none }
def PackLawsWrongFalsely : Prop := packLawsRow.holds Try.pinned (OpenSpec.ofChange packLawsWrong)

/- THE SECOND FORM. 'bulk': how many values and letters a reading holds, each counted each time it is reached (what is shared counts as often as it is met; a slice's spare places count too). A statement '..UptoSaid' is the law's where the arguments, and the package variables that the reading takes, are together of bulk at most 1048576: NARROWER than '..Said'. Prove '..Said' where nothing that the law and all that it calls make is longer than what came in: it says more and counts as full. Else prove '..UptoSaid'. A law counts once. -/
mutual
def uptoBulk {H : Type} : DataW H → Nat
  | .lit (.string bytes) => bytes.length + 1
  | .lit _ => 1
  | .nil => 1
  | .ptr d => uptoBulk d + 1
  | .slice elems spare => uptoBulkAll elems + uptoBulkAll spare + 1
  | .agg parts => uptoBulkAll parts + 1
  | .iface _ d => uptoBulk d + 1
  | .map entries => uptoBulkEntries entries + 1
  | .held _ => 1
def uptoBulkAll {H : Type} : List (DataW H) → Nat
  | [] => 0
  | d :: r => uptoBulk d + uptoBulkAll r
def uptoBulkEntries {H : Type} : List (Lit × DataW H) → Nat
  | [] => 0
  | x :: r => uptoBulkEntry x + uptoBulkEntries r
def uptoBulkEntry {H : Type} : Lit × DataW H → Nat
  | (.string bytes, d) => bytes.length + uptoBulk d + 1
  | (_, d) => uptoBulk d + 1
 end
def uptoSmall : (H : Type) → List (DataW H) → Bool := fun _ ds => decide (uptoBulkAll ds ≤ 1048576)
def OpenSpec.upto (s : _root_.Go.ChangeSpec) : _root_.Go.OpenSpec := { _root_.Go.OpenSpec.ofChange s with cond := some uptoSmall }

/-- 'oriellaw03.PackPlaces', WHERE WHAT IT READS IS OF BULK AT MOST 1048576: true; the input reads as it did. -/
def packPlacesUptoRow : OpenClaim := { program := "ytlfnefgcndhomaa", sum := "ae4dc44e6cf4edd8e9f5bbfa8448ae358f9bc33dd9921ff877dc5de6c24927ae", func := "oriel/oriellaw03.PackPlaces", spec := "packPlaces", apart := false, narrowed := true }
def PackPlacesUptoSaid : Prop := packPlacesUptoRow.holds Try.pinned (OpenSpec.upto packPlacesSpec)

/-- 'oriellaw03.PackNumbers', WHERE WHAT IT READS IS OF BULK AT MOST 1048576: true; the input reads as it did. -/
def packNumbersUptoRow : OpenClaim := { program := "ytlfnefgcndhomaa", sum := "ae4dc44e6cf4edd8e9f5bbfa8448ae358f9bc33dd9921ff877dc5de6c24927ae", func := "oriel/oriellaw03.PackNumbers", spec := "packNumbers", apart := false, narrowed := true }
def PackNumbersUptoSaid : Prop := packNumbersUptoRow.holds Try.pinned (OpenSpec.upto packNumbersSpec)

/-- 'oriellaw03.PackBack', WHERE WHAT IT READS IS OF BULK AT MOST 1048576: true; the input reads as it did. -/
def packBackUptoRow : OpenClaim := { program := "ytlfnefgcndhomaa", sum := "ae4dc44e6cf4edd8e9f5bbfa8448ae358f9bc33dd9921ff877dc5de6c24927ae", func := "oriel/oriellaw03.PackBack", spec := "packBack", apart := false, narrowed := true }
def PackBackUptoSaid : Prop := packBackUptoRow.holds Try.pinned (OpenSpec.upto packBackSpec)

/-- 'oriellaw03.PackLists', WHERE WHAT IT READS IS OF BULK AT MOST 1048576: true; the input reads as it did. -/
def packListsUptoRow : OpenClaim := { program := "ytlfnefgcndhomaa", sum := "ae4dc44e6cf4edd8e9f5bbfa8448ae358f9bc33dd9921ff877dc5de6c24927ae", func := "oriel/oriellaw03.PackLists", spec := "packLists", apart := false, narrowed := true }
def PackListsUptoSaid : Prop := packListsUptoRow.holds Try.pinned (OpenSpec.upto packListsSpec)

/-- 'oriellaw03.PackHashes', WHERE WHAT IT READS IS OF BULK AT MOST 1048576: true; the input reads as it did. -/
def packHashesUptoRow : OpenClaim := { program := "ytlfnefgcndhomaa", sum := "ae4dc44e6cf4edd8e9f5bbfa8448ae358f9bc33dd9921ff877dc5de6c24927ae", func := "oriel/oriellaw03.PackHashes", spec := "packHashes", apart := false, narrowed := true }
def PackHashesUptoSaid : Prop := packHashesUptoRow.holds Try.pinned (OpenSpec.upto packHashesSpec)

/-- 'oriellaw03.PackSets', WHERE WHAT IT READS IS OF BULK AT MOST 1048576: true; the input reads as it did. -/
def packSetsUptoRow : OpenClaim := { program := "ytlfnefgcndhomaa", sum := "ae4dc44e6cf4edd8e9f5bbfa8448ae358f9bc33dd9921ff877dc5de6c24927ae", func := "oriel/oriellaw03.PackSets", spec := "packSets", unfollowed := true, recurses := true, apart := false, narrowed := true }
def PackSetsUptoSaid : Prop := packSetsUptoRow.holds Try.pinned (OpenSpec.upto packSetsSpec)

/-- 'oriellaw03.PackLaws', WHERE WHAT IT READS IS OF BULK AT MOST 1048576: true; the input reads as it did. -/
def packLawsUptoRow : OpenClaim := { program := "ytlfnefgcndhomaa", sum := "ae4dc44e6cf4edd8e9f5bbfa8448ae358f9bc33dd9921ff877dc5de6c24927ae", func := "oriel/oriellaw03.PackLaws", spec := "packLaws", unfollowed := true, recurses := true, apart := false, narrowed := true }
def PackLawsUptoSaid : Prop := packLawsUptoRow.holds Try.pinned (OpenSpec.upto packLawsSpec)

end Rows
end Go.Proofs.Ytlfnefgcndhomaa
