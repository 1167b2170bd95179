/-
  each over nodes: a node and all below it are handed on, each ahead of its kids, for any function that takes them.; each over the nodes of a tree that stays as it is; how many nodes there are.
-/
import Derived.Test.YtmpmfamiegpmgaaGreatDoorGF
import Derived.Test.YtmpmfamiegpmgaaGreatDoorGT
namespace Go.Proofs.YtmpmfamiegpmgaaGreatDoor
open Go.RowKit
set_option maxRecDepth 20000
set_option linter.unusedVariables false
set_option linter.unusedSimpArgs false
structure aap (P:Nat→Prop) (w w':World):Prop where
 size:w.heap.size≤w'.heap.size
 blk:∀ b,P b→b < w.heap.size→w'.heap[b]?=w.heap[b]?
structure aaY (P:Nat→Prop) (w w':World):Prop where
 os:w'.os=w.os
 tape:w'.tape=w.tape
 output:w'.output=w.output
 size:w.heap.size≤w'.heap.size
 blk:∀ b,b < w.heap.size→¬ P b→w'.heap[b]?=w.heap[b]?
end Go.Proofs.YtmpmfamiegpmgaaGreatDoor
