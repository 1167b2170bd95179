/-
  NARROWER THAN 'FOR EVERY INPUT', by the rows' own cells (each row's printed sentence says how): MatchTells: loops · MatchOn: loops.
  DERIVED. THE GIVEN ROWS OF THIS SEAT. 4 by the template 'for every input the law returns true; each argument reads behind the call as it read before'; 0 by the template 'total and deterministic' (their statements: YtagkpcnedccaiaaTotals.lean).
  GIVEN WITH THE SEED: the statements are not yours to turn. If you find one false, say at which input.
  Laid BY PROGRAM, IN A SANDBOX (cutbox-rows.mjs): the forced cells as the released guide's own fill.sh prints them over the translation 055da1a1b8546faf… (all of the seat's roots in one cut). By AI agents, Wed Nov 11 2026. No macro, syntax, notation, axiom, sorry.
-/
import Derived.Test.YtagkpcnedccaiaaChecked
import GoSem.Claim
import GoSem.ClaimJoined
import GoSem.ClaimMapViews
import Derived.JoinedTies
import Derived.KernelRfl
namespace Go.Proofs.Ytagkpcnedccaiaa
/- THE CELL 'sum', in the pinned program and in every row, IS THE sha256 OF THE DUMP (.gsa) THAT YtagkpcnedccaiaaProg.lean LOADS. Nothing in Lean hashes anything: it is a label: what it is worth is what the hold of that sum in a sandbox is worth. -/
noncomputable def Try.pinned : Pinned := { name := "ytagkpcnedccaiaa", sum := "055da1a1b8546faf0cd3e6e98838ffb43602ca35b0b9e89028283afad16f7a5b", checked := Try.checked }
namespace Rows
def none {H : Type} : Left H := { results := [], args := [] }

/-- 'oriellaw12.MatchTells': WHATEVER THE INPUT: true; the input reads as it did. -/
def matchTellsSpec : ChangeSpec := { name := "matchTells", fn := fun _ => fun
  | [d1, d2] => { results := [.lit (.bool true)], args := [d1, d2] }
  | _ => none }
def matchTellsRow : OpenClaim := { program := "ytagkpcnedccaiaa", sum := "055da1a1b8546faf0cd3e6e98838ffb43602ca35b0b9e89028283afad16f7a5b", func := "oriel/oriellaw12.MatchTells", spec := "matchTells", unfollowed := true, recurses := true, loops := true, plainKeys := false, apart := false }
def MatchTellsSaid : Prop := matchTellsRow.holds Try.pinned (OpenSpec.ofChange matchTellsSpec)

/-- ITS FALSE NEIGHBOUR: 'it returns false'. Refute it at one input. -/
def matchTellsWrong : ChangeSpec := { name := "matchTells", fn := fun _ => fun
  | [d1, d2] => { results := [.lit (.bool false)], args := [d1, d2] }
  | _ => none }
def MatchTellsWrongFalsely : Prop := matchTellsRow.holds Try.pinned (OpenSpec.ofChange matchTellsWrong)

/-- 'oriellaw12.MatchOn': WHATEVER THE INPUT: true; the input reads as it did. -/
def matchOnSpec : ChangeSpec := { name := "matchOn", fn := fun _ => fun
  | [d1, d2, d3] => { results := [.lit (.bool true)], args := [d1, d2, d3] }
  | _ => none }
def matchOnRow : OpenClaim := { program := "ytagkpcnedccaiaa", sum := "055da1a1b8546faf0cd3e6e98838ffb43602ca35b0b9e89028283afad16f7a5b", func := "oriel/oriellaw12.MatchOn", spec := "matchOn", unfollowed := true, recurses := true, loops := true, plainKeys := false, apart := false }
def MatchOnSaid : Prop := matchOnRow.holds Try.pinned (OpenSpec.ofChange matchOnSpec)

/-- ITS FALSE NEIGHBOUR: 'it returns false'. Refute it at one input. -/
def matchOnWrong : ChangeSpec := { name := "matchOn", fn := fun _ => fun
  | [d1, d2, d3] => { results := [.lit (.bool false)], args := [d1, d2, d3] }
  | _ => none }
def MatchOnWrongFalsely : Prop := matchOnRow.holds Try.pinned (OpenSpec.ofChange matchOnWrong)

/-- 'oriellaw12.MatchLinks': WHATEVER THE INPUT: true; the input reads as it did. -/
def matchLinksSpec : ChangeSpec := { name := "matchLinks", fn := fun _ => fun
  | [d1, d2, d3, d4] => { results := [.lit (.bool true)], args := [d1, d2, d3, d4] }
  | _ => none }
def matchLinksRow : OpenClaim := { program := "ytagkpcnedccaiaa", sum := "055da1a1b8546faf0cd3e6e98838ffb43602ca35b0b9e89028283afad16f7a5b", func := "oriel/oriellaw12.MatchLinks", spec := "matchLinks", unfollowed := true, recurses := true, plainKeys := false, apart := false }
def MatchLinksSaid : Prop := matchLinksRow.holds Try.pinned (OpenSpec.ofChange matchLinksSpec)

/-- ITS FALSE NEIGHBOUR: 'it returns false'. Refute it at one input. -/
def matchLinksWrong : ChangeSpec := { name := "matchLinks", fn := fun _ => fun
  | [d1, d2, d3, d4] => { results := [.lit (.bool false)], args := [d1, d2, d3, d4] }
  | _ => none }
def MatchLinksWrongFalsely : Prop := matchLinksRow.holds Try.pinned (OpenSpec.ofChange matchLinksWrong)

/-- 'oriellaw12.MatchClasses': WHATEVER THE INPUT: true; the input reads as it did. -/
def matchClassesSpec : ChangeSpec := { name := "matchClasses", fn := fun _ => fun
  | [d1, d2, d3, d4] => { results := [.lit (.bool true)], args := [d1, d2, d3, d4] }
  | _ => none }
def matchClassesRow : OpenClaim := { program := "ytagkpcnedccaiaa", sum := "055da1a1b8546faf0cd3e6e98838ffb43602ca35b0b9e89028283afad16f7a5b", func := "oriel/oriellaw12.MatchClasses", spec := "matchClasses", unfollowed := true, recurses := true, plainKeys := false, apart := false }
def MatchClassesSaid : Prop := matchClassesRow.holds Try.pinned (OpenSpec.ofChange matchClassesSpec)

/-- ITS FALSE NEIGHBOUR: 'it returns false'. Refute it at one input. -/
def matchClassesWrong : ChangeSpec := { name := "matchClasses", fn := fun _ => fun
  | [d1, d2, d3, d4] => { results := [.lit (.bool false)], args := [d1, d2, d3, d4] }
  | _ => none }
def MatchClassesWrongFalsely : Prop := matchClassesRow.holds Try.pinned (OpenSpec.ofChange matchClassesWrong)

/- THE SECOND FORM. 'bulk': how many values and letters a reading holds, each counted each time it is reached (what is shared counts as often as it is met; a slice's spare places count too). A statement '..UptoSaid' is the law's where the arguments, and the package variables that the reading takes, are together of bulk at most 1048576: NARROWER than '..Said'. Prove '..Said' where nothing that the law and all that it calls make is longer than what came in: it says more and counts as full. Else prove '..UptoSaid'. A law counts once. -/
mutual
def uptoBulk {H : Type} : DataW H → Nat
  | .lit (.string bytes) => bytes.length + 1
  | .lit _ => 1
  | .nil => 1
  | .ptr d => uptoBulk d + 1
  | .slice elems spare => uptoBulkAll elems + uptoBulkAll spare + 1
  | .agg parts => uptoBulkAll parts + 1
  | .iface _ d => uptoBulk d + 1
  | .map entries => uptoBulkEntries entries + 1
  | .held _ => 1
def uptoBulkAll {H : Type} : List (DataW H) → Nat
  | [] => 0
  | d :: r => uptoBulk d + uptoBulkAll r
def uptoBulkEntries {H : Type} : List (Lit × DataW H) → Nat
  | [] => 0
  | x :: r => uptoBulkEntry x + uptoBulkEntries r
def uptoBulkEntry {H : Type} : Lit × DataW H → Nat
  | (.string bytes, d) => bytes.length + uptoBulk d + 1
  | (_, d) => uptoBulk d + 1
 end
def uptoSmall : (H : Type) → List (DataW H) → Bool := fun _ ds => decide (uptoBulkAll ds ≤ 1048576)
def OpenSpec.upto (s : _root_.Go.ChangeSpec) : _root_.Go.OpenSpec := { _root_.Go.OpenSpec.ofChange s with cond := some uptoSmall }

/-- 'oriellaw12.MatchTells', WHERE WHAT IT READS IS OF BULK AT MOST 1048576: true; the input reads as it did. -/
def matchTellsUptoRow : OpenClaim := { program := "ytagkpcnedccaiaa", sum := "055da1a1b8546faf0cd3e6e98838ffb43602ca35b0b9e89028283afad16f7a5b", func := "oriel/oriellaw12.MatchTells", spec := "matchTells", unfollowed := true, recurses := true, loops := true, plainKeys := false, apart := false, narrowed := true }
def MatchTellsUptoSaid : Prop := matchTellsUptoRow.holds Try.pinned (OpenSpec.upto matchTellsSpec)

/-- 'oriellaw12.MatchOn', WHERE WHAT IT READS IS OF BULK AT MOST 1048576: true; the input reads as it did. -/
def matchOnUptoRow : OpenClaim := { program := "ytagkpcnedccaiaa", sum := "055da1a1b8546faf0cd3e6e98838ffb43602ca35b0b9e89028283afad16f7a5b", func := "oriel/oriellaw12.MatchOn", spec := "matchOn", unfollowed := true, recurses := true, loops := true, plainKeys := false, apart := false, narrowed := true }
def MatchOnUptoSaid : Prop := matchOnUptoRow.holds Try.pinned (OpenSpec.upto matchOnSpec)

/-- 'oriellaw12.MatchLinks', WHERE WHAT IT READS IS OF BULK AT MOST 1048576: true; the input reads as it did. -/
def matchLinksUptoRow : OpenClaim := { program := "ytagkpcnedccaiaa", sum := "055da1a1b8546faf0cd3e6e98838ffb43602ca35b0b9e89028283afad16f7a5b", func := "oriel/oriellaw12.MatchLinks", spec := "matchLinks", unfollowed := true, recurses := true, plainKeys := false, apart := false, narrowed := true }
def MatchLinksUptoSaid : Prop := matchLinksUptoRow.holds Try.pinned (OpenSpec.upto matchLinksSpec)

/-- 'oriellaw12.MatchClasses', WHERE WHAT IT READS IS OF BULK AT MOST 1048576: true; the input reads as it did. -/
def matchClassesUptoRow : OpenClaim := { program := "ytagkpcnedccaiaa", sum := "055da1a1b8546faf0cd3e6e98838ffb43602ca35b0b9e89028283afad16f7a5b", func := "oriel/oriellaw12.MatchClasses", spec := "matchClasses", unfollowed := true, recurses := true, plainKeys := false, apart := false, narrowed := true }
def MatchClassesUptoSaid : Prop := matchClassesUptoRow.holds Try.pinned (OpenSpec.upto matchClassesSpec)

end Rows
end Go.Proofs.Ytagkpcnedccaiaa
