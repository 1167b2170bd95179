/-
  The chapter's example of layer 8, its tokens and its branch.; The chapter's example of layer 8: its node and its occurrences.
-/
import Derived.Test.YtmpmfamiegpmgaaGreatDoorFY
namespace Go.Proofs.YtmpmfamiegpmgaaGreatDoor
open Go.RowKit
set_option maxRecDepth 20000
set_option linter.unusedVariables false
set_option linter.unusedSimpArgs false
abbrev s8:ByteArray:=⟨#[118,97,108,32,120,32,61,32,77,46,121,32,43,32,49]⟩
abbrev b8:Pb:=(.mk 1 0 0 8 [] [(.mk 3 0 0 8 [] [(.mk 39 0 1 2 [1] []),(.mk 37 0 3 8 [6] [(.mk 28 0 3 6 [3,5] []),(.mk 26 0 7 8 [] [])])])])
abbrev n8:Pb:=(.mk 1 0 0 15 [] [(.mk 3 0 0 15 [] [(.mk 39 0 4 5 [0] []),(.mk 37 0 8 15 [3] [(.mk 28 0 8 11 [1,2] []),(.mk 26 0 14 15 [] [])])])])
mutual
def gY:Pb→List (Int × List Int)
 | .mk k _ _ _ ns ks=>(k,ns) :: kL ks
def kL:List Pb→List (Int × List Int)
 | []=>[]
 | b :: r=>gY b++kL r
end
theorem FW (ks:List Br) (ih:∀ k ∈ ks,k.flatB.map (fun z=>(z.h.k,z.h.ns))=gY k.pb):(aV ks).map (fun z=>(z.h.k,z.h.ns))=kL (ks.map Br.pb):=by
 induction ks with
 | nil=>rfl
 | cons x r ihr =>
  simp only [aV,List.map_append,List.map_cons,kL];rw [ih x (by simp),ihr fun k hk=>ih k (by simp [hk])]
theorem kG (y:Br):y.flatB.map (fun z=>(z.h.k,z.h.ns))=gY y.pb:=by
 induction y using Br.ind with
 | hP h ks ih =>
  rw [fG];simp only [Br.pb,eu,gY,List.map_cons];rw [show (Br.mk h ks).ks=ks from rfl,FW ks ih]
  rfl
mutual
def o9 (L:List Tok) (first:Int) (ts:List Int):Pb→Pb
 | .mk k m f t ns ks=>.mk k m (eU L f.toNat t.toNat).1 (eU L f.toNat t.toNat).2 (ns.map (jK first ts)) (qI L first ts ks)
def qI (L:List Tok) (first:Int) (ts:List Int):List Pb→List Pb
 | []=>[]
 | b :: r=>o9 L first ts b :: qI L first ts r
end
theorem zF (L:List Tok) (first:Int) (ts:List Int) (ks:List Pb):qI L first ts ks=ks.map (o9 L first ts):=by
 induction ks with
 | nil=>rfl
 | cons x r ih=>simp only [qI,List.map_cons,ih]
theorem Az (L:List Tok) (first:Int) (ts:List Int) (y:Br):qE L first ts y=o9 L first ts y.pb:=by
 induction y using Br.ind with
 | hP h ks ih =>
  simp only [qE,Br.pb,eu,o9,zn,zF,List.map_map]
  congr 1
  exact List.map_congr_left fun k hk=>ih k hk
theorem oG {a b:List Int} (ha:ng a) (hb:ng b) (h:∀ x,x ∈ a ↔ x ∈ b):a=b:=by
 have na:a.Nodup:=ha.imp fun h=>by omega
 have nb:b.Nodup:=hb.imp fun h=>by omega
 have hp:a.Perm b:=(List.perm_ext_iff_of_nodup na nb).2 h;exact hp.eq_of_pairwise (fun x y _ _ h1 h2=>by omega) ha hb
theorem jm (y:Br):dK y.flatB=(gY y.pb).flatMap (·.2):=by
 rw [← kG,dK,List.flatMap_map]
end Go.Proofs.YtmpmfamiegpmgaaGreatDoor
