/-
  A node's copy in memory of its own (unit's own), walked.; unit's Nodes: a copy of each file's node; the statement's own looks whether two rows of nodes, or of occurrences, are the same.; The document's and the statement's looks whether two rows of occurrences, or of nodes, are the same: of the same they tell true.
-/
import Derived.Test.YtmpmfamiegpmgaaGreatDoorHB
import Derived.Test.YtmpmfamiegpmgaaGreatDoorGF
import Derived.Deep.Cut
import Derived.Deep.CutRange
import Derived.Deep.AppendLies
import Derived.Test.YtmpmfamiegpmgaaGreatDoorHA
import Derived.StillTailTactics
namespace Go.Proofs.YtmpmfamiegpmgaaGreatDoor
open Go.RowKit
set_option maxRecDepth 20000
set_option linter.unusedVariables false
set_option linter.unusedSimpArgs false
def Oi (w0:World) (root:BA) (st:List BA) (g:Nat) (w:World):Prop :=
 (∃ D,root ∈ D++st∧Ow w0 D st (fun b=>b=g) w)∧(∀ e ∈ st,e.y.Few)
def Oj (w0:World) (root e:BA) (hd:Hd) (kb:Nat) (st:List BA) (g:Nat) (w:World):Prop :=
 (∃ D,root ∈ D++(bD kb 0 e.y.ks++st)∧e ∈ D∧Ow w0 D (bD kb 0 e.y.ks++st) (fun b=>b=g) w)∧(∀ x ∈ bD kb 0 e.y.ks++st,x.y.Few) ∧
  bP w e.b e.o hd∧hd.kn=e.y.ks.length∧(hd.kn=0∨hd.kp=some ⟨kb,0,none⟩∧hd.kn≤hd.kc)
def Fre (N:Nat) (w:World) (y:Br):Prop :=
 (y.h.kn=0∨∃ kb cs,y.h.kp=some ⟨kb,0,none⟩∧N≤kb∧w.heap[kb]?=some (.cells cs 26 (0,0))) ∧
 ∀ k ∈ y.ks,k.h.nn=0∨∃ nb cs,k.h.np=some ⟨nb,0,none⟩∧N≤nb∧w.heap[nb]?=some (.cells cs 3 (0,0))
def WI (w:World) (y:Br) (x:Ending) (w':World):Prop:=∃ y':Br,x=.returned y'.h.val∧(∀ w2,Agr w.heap.size w' w2→y'.Lies w2∧Fre w.heap.size w2 y')∧y'.ntr=y.ntr∧Below w.heap.size w w'
def Fq (K:Nat) (w:World) (N M:Nat) (y:Br):Prop:=∀ w2:World,M≤w2.heap.size→(∀ b,N≤b→b < M→w2.heap[b]?=w.heap[b]?)→y.Lies w2∧Fre K w2 y
def FqL (K:Nat) (w:World) (v:Value) (ys:List Br):Prop:=∀ y ∈ ys,∃ N M,M≤w.heap.size∧(∀ b,N≤b→b < M→v.ownBlock≠some b)∧Fq K w N M y
theorem wL (l:List Br) (o:Br):aT (l++[o])=aT l++gB o.h:=by simp [aT]
theorem CU (h:Hd):∀ u ∈ gB h,u.oneCell'=true:=fun u hu=>by
 simp only [gB,List.mem_cons,List.not_mem_nil,or_false] at hu
 rcases hu with rfl | rfl | rfl | rfl | rfl | rfl <;> rfl
def Ue (W:World) (qs:List PN) (e:Ending) (W':World):Prop:=∃ (q:Option Addr) (c:Nat) (ys:List Br),e=.returned (.slice q qs.length c)∧W'.ownsRow W.heap.size 26 6 (.slice q qs.length c) qs.length (aT ys)∧qs.length=ys.length∧(∀ y ∈ ys,y.Lies W'∧Fre W.heap.size W' y)∧ys.map Br.ntr=qs.map (fun q=>q.nd.ntr)∧Below W.heap.size W W'
def OIn (w:World) (p:Option Addr) (n c:Nat) (l:List oZ):Prop:=n=l.length∧(n=0∨∃ b,p=some ⟨b,0,none⟩∧n≤c∧b < w.heap.size∧∀ i v,l[i]?=some v→gq w b (i * 5) v)
end Go.Proofs.YtmpmfamiegpmgaaGreatDoor
