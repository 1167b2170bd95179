/-
  The chapter's example of layer 8, its tokens and its branch.; The chapter's example of layer 8: its node and its occurrences.
-/
import Derived.Test.YtmpmfamiegpmgaaGreatDoorGY
namespace Go.Proofs.YtmpmfamiegpmgaaGreatDoor
open Go.RowKit
set_option maxRecDepth 20000
set_option linter.unusedVariables false
set_option linter.unusedSimpArgs false
abbrev s8:ByteArray:=⟨#[118,97,108,32,120,32,61,32,77,46,121,32,43,32,49]⟩
abbrev b8:Pb:=(.mk 1 0 0 8 [] [(.mk 3 0 0 8 [] [(.mk 39 0 1 2 [1] []),(.mk 37 0 3 8 [6] [(.mk 28 0 3 6 [3,5] []),(.mk 26 0 7 8 [] [])])])])
abbrev n8:Pb:=(.mk 1 0 0 15 [] [(.mk 3 0 0 15 [] [(.mk 39 0 4 5 [0] []),(.mk 37 0 8 15 [3] [(.mk 28 0 8 11 [1,2] []),(.mk 26 0 14 15 [] [])])])])
mutual
def iV:Pb→List (Int × List Int)
 | .mk k _ _ _ ns ks=>(k,ns) :: kN ks
def kN:List Pb→List (Int × List Int)
 | []=>[]
 | b :: r=>iV b++kN r
end
theorem Fv (ks:List Br) (ih:∀ k ∈ ks,k.flatB.map (fun z=>(z.h.k,z.h.ns))=iV k.pb):(bC ks).map (fun z=>(z.h.k,z.h.ns))=kN (ks.map Br.pb):=by
 induction ks with
 | nil=>rfl
 | cons x r ihr =>
  simp only [bC,List.map_append,List.map_cons,kN];rw [ih x (by simp),ihr fun k hk=>ih k (by simp [hk])]
theorem mQ (y:Br):y.flatB.map (fun z=>(z.h.k,z.h.ns))=iV y.pb:=by
 induction y using Br.ind with
 | hP h ks ih =>
  rw [iI];simp only [Br.pb,eQ,iV,List.map_cons];rw [show (Br.mk h ks).ks=ks from rfl,Fv ks ih]
  rfl
mutual
def wG (L:List Tok) (first:Int) (ts:List Int):Pb→Pb
 | .mk k m f t ns ks=>.mk k m (eP L f.toNat t.toNat).1 (eP L f.toNat t.toNat).2 (ns.map (jQ first ts)) (ve L first ts ks)
def ve (L:List Tok) (first:Int) (ts:List Int):List Pb→List Pb
 | []=>[]
 | b :: r=>wG L first ts b :: ve L first ts r
end
theorem IA (L:List Tok) (first:Int) (ts:List Int) (ks:List Pb):ve L first ts ks=ks.map (wG L first ts):=by
 induction ks with
 | nil=>rfl
 | cons x r ih=>simp only [ve,List.map_cons,ih]
theorem vK (L:List Tok) (first:Int) (ts:List Int) (y:Br):qw L first ts y=wG L first ts y.pb:=by
 induction y using Br.ind with
 | hP h ks ih =>
  simp only [qw,Br.pb,eQ,wG,zy,IA,List.map_map]
  congr 1
  exact List.map_congr_left fun k hk=>ih k hk
theorem oh {a b:List Int} (ha:mG a) (hb:mG b) (h:∀ x,x ∈ a ↔ x ∈ b):a=b:=by
 have na:a.Nodup:=ha.imp fun h=>by omega
 have nb:b.Nodup:=hb.imp fun h=>by omega
 have hp:a.Perm b:=(List.perm_ext_iff_of_nodup na nb).2 h;exact hp.eq_of_pairwise (fun x y _ _ h1 h2=>by omega) ha hb
theorem jJ (y:Br):dQ y.flatB=(iV y.pb).flatMap (·.2):=by
 rw [← mQ,dQ,List.flatMap_map]
end Go.Proofs.YtmpmfamiegpmgaaGreatDoor
