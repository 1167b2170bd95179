/-
  No cell of these rows narrows 'for every input' (looked for: loops, veiled, ifaces, maps, wideKeys, modest, calm, conditions, laid).
  DERIVED. THE GIVEN ROWS OF THIS SEAT. 4 by the template 'for every input the law returns true; each argument reads behind the call as it read before'; 0 by the template 'total and deterministic' (their statements: YtggoajpemffbiaaTotals.lean).
  GIVEN WITH THE SEED: the statements are not yours to turn. If you find one false, say at which input.
  Laid BY PROGRAM, IN A SANDBOX (cutbox-rows.mjs): the forced cells as the released guide's own fill.sh prints them over the translation e87771bd5fee1a1c… (all of the seat's roots in one cut). By AI agents, Wed Nov 11 2026. No macro, syntax, notation, axiom, sorry.
-/
import Derived.Test.YtggoajpemffbiaaChecked
import GoSem.Claim
import GoSem.ClaimJoined
import GoSem.ClaimMapViews
import Derived.JoinedTies
import Derived.KernelRfl
namespace Go.Proofs.Ytggoajpemffbiaa
/- THE CELL 'sum', in the pinned program and in every row, IS THE sha256 OF THE DUMP (.gsa) THAT YtggoajpemffbiaaProg.lean LOADS. Nothing in Lean hashes anything: it is a label: what it is worth is what the hold of that sum in a sandbox is worth. -/
noncomputable def Try.pinned : Pinned := { name := "ytggoajpemffbiaa", sum := "e87771bd5fee1a1c96dfd7f64c7213ff326d90bc29c2606f31e8c72c874b5ecb", checked := Try.checked }
namespace Rows
def none {H : Type} : Left H := { results := [], args := [] }

/-- 'oriellaw15.GraphRight': WHATEVER THE INPUT: true; the input reads as it did. -/
def graphRightSpec : ChangeSpec := { name := "graphRight", fn := fun _ => fun
  | [d1, d2, d3] => { results := [.lit (.bool true)], args := [d1, d2, d3] }
  | _ => none }
def graphRightRow : OpenClaim := { program := "ytggoajpemffbiaa", sum := "e87771bd5fee1a1c96dfd7f64c7213ff326d90bc29c2606f31e8c72c874b5ecb", func := "oriel/oriellaw15.GraphRight", spec := "graphRight", unfollowed := true, recurses := true, apart := false }
def GraphRightSaid : Prop := graphRightRow.holds Try.pinned (OpenSpec.ofChange graphRightSpec)

/-- ITS FALSE NEIGHBOUR: 'it returns false'. Refute it at one input. -/
def graphRightWrong : ChangeSpec := { name := "graphRight", fn := fun _ => fun
  | [d1, d2, d3] => { results := [.lit (.bool false)], args := [d1, d2, d3] }
  | _ => none }
def GraphRightWrongFalsely : Prop := graphRightRow.holds Try.pinned (OpenSpec.ofChange graphRightWrong)

/-- 'oriellaw15.GraphMaps': WHATEVER THE INPUT: true; the input reads as it did. -/
def graphMapsSpec : ChangeSpec := { name := "graphMaps", fn := fun _ => fun
  | [d1, d2, d3] => { results := [.lit (.bool true)], args := [d1, d2, d3] }
  | _ => none }
def graphMapsRow : OpenClaim := { program := "ytggoajpemffbiaa", sum := "e87771bd5fee1a1c96dfd7f64c7213ff326d90bc29c2606f31e8c72c874b5ecb", func := "oriel/oriellaw15.GraphMaps", spec := "graphMaps", unfollowed := true, recurses := true, apart := false }
def GraphMapsSaid : Prop := graphMapsRow.holds Try.pinned (OpenSpec.ofChange graphMapsSpec)

/-- ITS FALSE NEIGHBOUR: 'it returns false'. Refute it at one input. -/
def graphMapsWrong : ChangeSpec := { name := "graphMaps", fn := fun _ => fun
  | [d1, d2, d3] => { results := [.lit (.bool false)], args := [d1, d2, d3] }
  | _ => none }
def GraphMapsWrongFalsely : Prop := graphMapsRow.holds Try.pinned (OpenSpec.ofChange graphMapsWrong)

/-- 'oriellaw15.GraphSelf': WHATEVER THE INPUT: true; the input reads as it did. -/
def graphSelfSpec : ChangeSpec := { name := "graphSelf", fn := fun _ => fun
  | [d1, d2, d3, d4] => { results := [.lit (.bool true)], args := [d1, d2, d3, d4] }
  | _ => none }
def graphSelfRow : OpenClaim := { program := "ytggoajpemffbiaa", sum := "e87771bd5fee1a1c96dfd7f64c7213ff326d90bc29c2606f31e8c72c874b5ecb", func := "oriel/oriellaw15.GraphSelf", spec := "graphSelf", unfollowed := true, recurses := true, apart := false }
def GraphSelfSaid : Prop := graphSelfRow.holds Try.pinned (OpenSpec.ofChange graphSelfSpec)

/-- ITS FALSE NEIGHBOUR: 'it returns false'. Refute it at one input. -/
def graphSelfWrong : ChangeSpec := { name := "graphSelf", fn := fun _ => fun
  | [d1, d2, d3, d4] => { results := [.lit (.bool false)], args := [d1, d2, d3, d4] }
  | _ => none }
def GraphSelfWrongFalsely : Prop := graphSelfRow.holds Try.pinned (OpenSpec.ofChange graphSelfWrong)

/-- 'oriellaw15.GraphOn': WHATEVER THE INPUT: true; the input reads as it did. -/
def graphOnSpec : ChangeSpec := { name := "graphOn", fn := fun _ => fun
  | [d1, d2, d3, d4, d5] => { results := [.lit (.bool true)], args := [d1, d2, d3, d4, d5] }
  | _ => none }
def graphOnRow : OpenClaim := { program := "ytggoajpemffbiaa", sum := "e87771bd5fee1a1c96dfd7f64c7213ff326d90bc29c2606f31e8c72c874b5ecb", func := "oriel/oriellaw15.GraphOn", spec := "graphOn", unfollowed := true, recurses := true, apart := false }
def GraphOnSaid : Prop := graphOnRow.holds Try.pinned (OpenSpec.ofChange graphOnSpec)

/-- ITS FALSE NEIGHBOUR: 'it returns false'. Refute it at one input. -/
def graphOnWrong : ChangeSpec := { name := "graphOn", fn := fun _ => fun
  | [d1, d2, d3, d4, d5] => { results := [.lit (.bool false)], args := [d1, d2, d3, d4, d5] }
  | _ => none }
def GraphOnWrongFalsely : Prop := graphOnRow.holds Try.pinned (OpenSpec.ofChange graphOnWrong)

/- THE SECOND FORM. 'bulk': how many values and letters a reading holds, each counted each time it is reached (what is shared counts as often as it is met; a slice's spare places count too). A statement '..UptoSaid' is the law's where the arguments, and the package variables that the reading takes, are together of bulk at most 1048576: NARROWER than '..Said'. Prove '..Said' where nothing that the law and all that it calls make is longer than what came in: it says more and counts as full. Else prove '..UptoSaid'. A law counts once. -/
mutual
def uptoBulk {H : Type} : DataW H → Nat
  | .lit (.string bytes) => bytes.length + 1
  | .lit _ => 1
  | .nil => 1
  | .ptr d => uptoBulk d + 1
  | .slice elems spare => uptoBulkAll elems + uptoBulkAll spare + 1
  | .agg parts => uptoBulkAll parts + 1
  | .iface _ d => uptoBulk d + 1
  | .map entries => uptoBulkEntries entries + 1
  | .held _ => 1
def uptoBulkAll {H : Type} : List (DataW H) → Nat
  | [] => 0
  | d :: r => uptoBulk d + uptoBulkAll r
def uptoBulkEntries {H : Type} : List (Lit × DataW H) → Nat
  | [] => 0
  | x :: r => uptoBulkEntry x + uptoBulkEntries r
def uptoBulkEntry {H : Type} : Lit × DataW H → Nat
  | (.string bytes, d) => bytes.length + uptoBulk d + 1
  | (_, d) => uptoBulk d + 1
 end
def uptoSmall : (H : Type) → List (DataW H) → Bool := fun _ ds => decide (uptoBulkAll ds ≤ 1048576)
def OpenSpec.upto (s : _root_.Go.ChangeSpec) : _root_.Go.OpenSpec := { _root_.Go.OpenSpec.ofChange s with cond := some uptoSmall }

/-- 'oriellaw15.GraphRight', WHERE WHAT IT READS IS OF BULK AT MOST 1048576: true; the input reads as it did. -/
def graphRightUptoRow : OpenClaim := { program := "ytggoajpemffbiaa", sum := "e87771bd5fee1a1c96dfd7f64c7213ff326d90bc29c2606f31e8c72c874b5ecb", func := "oriel/oriellaw15.GraphRight", spec := "graphRight", unfollowed := true, recurses := true, apart := false, narrowed := true }
def GraphRightUptoSaid : Prop := graphRightUptoRow.holds Try.pinned (OpenSpec.upto graphRightSpec)

/-- 'oriellaw15.GraphMaps', WHERE WHAT IT READS IS OF BULK AT MOST 1048576: true; the input reads as it did. -/
def graphMapsUptoRow : OpenClaim := { program := "ytggoajpemffbiaa", sum := "e87771bd5fee1a1c96dfd7f64c7213ff326d90bc29c2606f31e8c72c874b5ecb", func := "oriel/oriellaw15.GraphMaps", spec := "graphMaps", unfollowed := true, recurses := true, apart := false, narrowed := true }
def GraphMapsUptoSaid : Prop := graphMapsUptoRow.holds Try.pinned (OpenSpec.upto graphMapsSpec)

/-- 'oriellaw15.GraphSelf', WHERE WHAT IT READS IS OF BULK AT MOST 1048576: true; the input reads as it did. -/
def graphSelfUptoRow : OpenClaim := { program := "ytggoajpemffbiaa", sum := "e87771bd5fee1a1c96dfd7f64c7213ff326d90bc29c2606f31e8c72c874b5ecb", func := "oriel/oriellaw15.GraphSelf", spec := "graphSelf", unfollowed := true, recurses := true, apart := false, narrowed := true }
def GraphSelfUptoSaid : Prop := graphSelfUptoRow.holds Try.pinned (OpenSpec.upto graphSelfSpec)

/-- 'oriellaw15.GraphOn', WHERE WHAT IT READS IS OF BULK AT MOST 1048576: true; the input reads as it did. -/
def graphOnUptoRow : OpenClaim := { program := "ytggoajpemffbiaa", sum := "e87771bd5fee1a1c96dfd7f64c7213ff326d90bc29c2606f31e8c72c874b5ecb", func := "oriel/oriellaw15.GraphOn", spec := "graphOn", unfollowed := true, recurses := true, apart := false, narrowed := true }
def GraphOnUptoSaid : Prop := graphOnUptoRow.holds Try.pinned (OpenSpec.upto graphOnSpec)

end Rows
end Go.Proofs.Ytggoajpemffbiaa
