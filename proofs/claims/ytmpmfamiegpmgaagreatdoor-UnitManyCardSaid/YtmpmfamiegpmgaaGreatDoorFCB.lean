/-
  Contracts of the library, laid.; show.Names: the bytes of occurrences.; unit's Occs and Names: all occurrences, and their bytes.; unit's Names: the bytes of all occurrences.
-/
import Derived.Shelf.Strconv.Clone
import Derived.Ground.Names2Prog
import Derived.Test.YtmpmfamiegpmgaaGreatDoorProg
import Derived.Test.YtmpmfamiegpmgaaGreatDoorFF
import Derived.OwnWalk
import Derived.Laws.MakeOwn
import Derived.Test.YtmpmfamiegpmgaaGreatDoorFCA
import Derived.Test.YtmpmfamiegpmgaaGreatDoorFV
import Derived.Deep.Cut
namespace Go.Proofs
open Go.Shelf
def Tryz.laysM316_ren:Go.Shelf.Ren:=⟨fun | 316=>116 | n=>n,fun | 9=>9 | 3=>3 | 4=>4 | 37=>139 | 0=>0 | 127=>231 | 5=>5 | n=>n,fun | n=>n⟩
theorem Tryz.laysM316:Go.Proofs.LaysM.n316 Tryz.prog Tryz.laysM316_ren:={
 mixed:=by kernel_rfl
 f316:=Tryz.func116.trans (congrArg some (by kernel_rfl))
 t0:=Tryz.underlying0
 a0:=Tryz.isAgg0
 z0:=Tryz.sizeOf0
 v0:=Tryz.zeroValue0
 t3:=Tryz.underlying3
 a3:=Tryz.isAgg3
 z3:=Tryz.sizeOf3
 v3:=Tryz.zeroValue3
 t4:=Tryz.underlying4
 a4:=Tryz.isAgg4
 z4:=Tryz.sizeOf4
 v4:=Tryz.zeroValue4
 t9:=Tryz.underlying9
 a9:=Tryz.isAgg9
 z9:=Tryz.sizeOf9
 v9:=Tryz.zeroValue9
 t37:=Tryz.underlying139
 a37:=Tryz.isAgg139
 z37:=Tryz.sizeOf139
 v37:=Tryz.zeroValue139
 t127:=Tryz.underlying231
 a127:=Tryz.isAgg231
 z127:=Tryz.sizeOf231
 v127:=Tryz.zeroValue231
 t5:=Tryz.underlying5
 a5:=Tryz.isAgg5
 z5:=Tryz.sizeOf5
 v5:=Tryz.zeroValue5
 i0:=by kernel_rfl
 i3:=by kernel_rfl
 i4:=by kernel_rfl
 i5:=by kernel_rfl
 i9:=by kernel_rfl
 i37:=by kernel_rfl
 i127:=by kernel_rfl }
open Go.RowKit in
/-- internal/stringslite.Clone (what strings.Clone calls): "Clone returns a fresh copy of s.": THE SAME BYTES. Of what was there nothing has turned (a new row is laid, and frozen, where s is not empty). (LAID: no walk: one application.) -/
theorem Tryz.stringslite_Clone (s:ByteArray) (w:World) (hlim:s.size≤281474976710656) :
  Calls Tryz.prog 116 #[.string s] w fun e w'=>e=.returned (.string s)∧Below w.heap.size w w':=Any.stringslite_Clone Tryz.laysM316 s w hlim
end Go.Proofs

namespace Go.Proofs.YtmpmfamiegpmgaaGreatDoor
open Go.RowKit
set_option maxRecDepth 20000
set_option linter.unusedVariables false
set_option linter.unusedSimpArgs false

/-- A row of texts of one's own. -/
structure NmRow (W:World) (g m:Nat) (t:Nat→ByteArray):Prop where
 lt:g < W.heap.size
 at_:∀ i,i < m→W.cell? ⟨g,i,none⟩=some (.string (t i))∧W.frozen? ⟨g,i,none⟩=false
theorem NmRow.step {W W':World} {g m:Nat} {t:Nat→ByteArray} (h:NmRow W g m t) (hb:Below W.heap.size W W'):NmRow W' g m t :=
 ⟨Nat.lt_of_lt_of_le h.lt hb.size,fun i hi=>⟨(hb.cell (p:=⟨g,i,none⟩) h.lt).trans (h.at_ i hi).1,(hb.frozen (p:=⟨g,i,none⟩) h.lt).trans (h.at_ i hi).2⟩⟩
theorem NmRow.set {W:World} {g m:Nat} {t:Nat→ByteArray} (h:NmRow W g m t) {j:Nat} (hj:j < m) (x:ByteArray):NmRow (W.setCell ⟨g,j,none⟩ (.string x)) g m (fun i=>bif i == j then x else t i):=by
 refine ⟨by simpa using h.lt,fun i hi=>⟨?_,?_⟩⟩
 ·by_cases e:i=j
  ·subst e
   rw [World.cell?_setCell_same _ _ _ (h.at_ i hi).1]; simp
  ·rw [World.cell?_setCell_other _ _ _ _ (fun q=>e (Addr.mk.inj q).2.1.symm),(h.at_ i hi).1]
   have:(i == j)=false:=by simpa using e
   rw [this]; rfl
 ·rw [World.frozen?_setCell]; exact (h.at_ i hi).2
/-- An occurrence's bytes. -/
def nameT (s:ByteArray) (a e:Int):ByteArray:=bif decide (0≤a) && decide (a≤e) && decide (e≤(s.size:Int)) then s.extract a.toNat e.toNat else ⟨#[]⟩
theorem clone_any (s:ByteArray) (w:World) (hlim:s.size≤281474976710656):Calls Tryz.prog 73 #[.string s] w fun e w'=>e=.returned (.string s)∧Below w.heap.size w w':=by
 have H:=Lib.hid (Tryz.stringslite_Clone s w hlim)
 go_enter Tryz.func73,Tryz.ntmps73
 go_wp2_with fail
 refine H.out.mono ?_
 rintro e w' ⟨rfl,hb⟩
 go_wp2_with fail
 go_ret
 exact ⟨rfl,hb⟩
set_option maxHeartbeats 4000000 in
theorem names36_any (s:ByteArray) (hs:s.size≤1000000) (oa m c:Nat) (hm:m≤10000000) (a e:Nat→Int) (W:World) (hol:oa < W.heap.size)
  (ho:∀ j,j < m→∃ fl sp dc,W.cell? ⟨oa,j * 5,none⟩=some (.int .i64 fl)∧W.cell? ⟨oa,j * 5+1,none⟩=some (.int .i64 (a j))∧W.cell? ⟨oa,j * 5+2,none⟩=some (.int .i64 (e j))∧W.cell? ⟨oa,j * 5+3,none⟩=some (.int .i64 sp)∧W.cell? ⟨oa,j * 5+4,none⟩=some (.bool dc)) :
  Calls Tryz.prog 36 #[.string s,.slice (some ⟨oa,0,none⟩) m c] W fun x W'=>∃ g,x=.returned (.slice (some ⟨g,0,none⟩) m m)∧W.heap.size≤g∧NmRow W' g m (fun j=>nameT s (a j) (e j))∧Below W.heap.size W W':=by
 obtain ⟨i9,hi9,hy0,hy1,hy2⟩:∃ i9,Tryz.prog.info? 9=some i9∧i9.zero=some (.string ⟨#[]⟩)∧i9.size=1∧i9.bytes=16:=by
  refine ⟨_,rfl,?_,?_,?_⟩ <;> kernel_rfl
 have HO:=Lib.hid ho
 clear ho
 go_enter Tryz.func36,Tryz.ntmps36
 go_wp2_with (at_make; refine wpList_make_full _ rfl _ _ 49 rfl W.heap.size 9 i9 (.string ⟨#[]⟩) 1 Tryz.underlying49 hi9 hy0 hy1 _ _ _ _ m rfl rfl rfl rfl (by rw [hy2]; omega) (by unfold maxLen; omega) (Nat.le_refl _) ?_; intro w1 hrow1 hg1)
 have hrw:NmRow w1 W.heap.size m (fun j=>bif decide (j < 0) then nameT s (a j) (e j) else ⟨#[]⟩):=by
  refine ⟨World.ownsRow.lt hrow1 _ rfl |>.2,fun i hi=>⟨?_,own_frozen hrow1 i⟩⟩
  ·refine own_cell hrow1 i _ ?_
   rw [show (Value.string ⟨#[]⟩).cells=#[.string ⟨#[]⟩] from rfl,toList_madeCells_one,Nat.mul_one,List.getElem?_replicate]
   simp [hi]
 have hb1:Below W.heap.size W w1:=(Below.refl _ _).grown hg1 (Nat.le_refl _) (fun j hj=>by cases hj)
 have HR1:=Lib.hid hrw
 have HB1:=Lib.hid hb1
 clear hrow1 hg1 hrw hb1
 go_loopw [13] (fun i wr=>∃ k:Nat,k≤m∧i=.int .i64 k∧Hid (NmRow wr W.heap.size m (fun j=>bif decide (j < k) then nameT s (a j) (e j) else ⟨#[]⟩))∧Hid (Below W.heap.size W wr)) (fun i _=>m - (intOf i).toNat)
 case atStart=>exact ⟨0,by omega,rfl,HR1,HB1⟩
 case round =>
  obtain ⟨k,hk,rfl,HR,HB⟩:=hrel
  by_cases hlt:k < m
  ·obtain ⟨fl,sp,dc,q0,q1,q2,q3,q4⟩:=HO.out k hlt
   have hbw:=HB.out
   have hsz:=hbw.size
   have c0:=(hbw.cell (p:=⟨oa,k * 5,none⟩) hol).trans q0
   have c1:=(hbw.cell (p:=⟨oa,k * 5+1,none⟩) hol).trans q1
   have c2:=(hbw.cell (p:=⟨oa,k * 5+2,none⟩) hol).trans q2
   have c3:=(hbw.cell (p:=⟨oa,k * 5+3,none⟩) hol).trans q3
   have c4:=(hbw.cell (p:=⟨oa,k * 5+4,none⟩) hol).trans q4
   have HNX:Hid (nameT s (a k) (e k)=⟨#[]⟩→NmRow wr W.heap.size m (fun j=>bif decide (j < k+1) then nameT s (a j) (e j) else ⟨#[]⟩)):=Lib.hid fun h=>by
    have e1:(fun j=>bif decide (j < k+1) then nameT s (a j) (e j) else (⟨#[]⟩:ByteArray))=(fun j=>bif decide (j < k) then nameT s (a j) (e j) else ⟨#[]⟩):=by
     funext j
     by_cases hj:j=k
     ·subst hj; simp [h]
     ·have:decide (j < k+1)=decide (j < k):=by simp; omega
      rw [this]
    rw [e1]; exact HR.out
   have HT:Hid (∀ x,nameT s (a k) (e k)=x→∀ wz:World,Below wr.heap.size wr wz→NmRow (wz.setCell ⟨W.heap.size,k,none⟩ (.string x)) W.heap.size m (fun j=>bif decide (j < k+1) then nameT s (a j) (e j) else ⟨#[]⟩)):=Lib.hid fun x h wz hz=>by
    have h2:=(HR.out.step hz).set hlt x
    have e1:(fun j=>bif decide (j < k+1) then nameT s (a j) (e j) else (⟨#[]⟩:ByteArray))=(fun j=>bif j == k then x else bif decide (j < k) then nameT s (a j) (e j) else ⟨#[]⟩):=by
     funext j
     by_cases hj:j=k
     ·subst hj; simp [h]
     ·have:decide (j < k+1)=decide (j < k):=by simp; omega
      have h9:(j == k)=false:=by simpa using hj
      rw [this,h9]; rfl
    rw [e1]; exact h2
   have hnt:nameT s (a k) (e k)=(bif decide (0≤a k) && decide (a k≤e k) && decide (e k≤(s.size:Int)) then s.extract (a k).toNat (e k).toNat else ⟨#[]⟩):=rfl
   have HNT:=Lib.hid hnt
   generalize a k=ak at *
   generalize e k=ek at *
   have HBA:Hid (Below W.heap.size W (wr.alloc (.cells #[.int .i64 fl,.int .i64 ak,.int .i64 ek,.int .i64 sp,.bool dc] 41))):=Lib.hid (hbw.alloc hsz _)
   clear q0 q1 q2 q3 q4 hbw hnt
   by_cases h0:0≤ak
   ·by_cases h1:ak≤ek
    ·by_cases h2:ek≤(s.size:Int)
     ·obtain ⟨xa,rfl⟩:∃ xa:Nat,ak=xa:=⟨ak.toNat,by omega⟩
      obtain ⟨xe,rfl⟩:∃ xe:Nat,ek=xe:=⟨ek.toNat,by omega⟩
      have s1:xa≤xe:=by omega
      have s2:xe≤s.size:=by omega
      have HE:=Lib.hid (HT.out (s.extract xa xe) (by rw [HNT.out]; simp [s1,s2]))
      have hxs:(s.extract xa xe).size≤281474976710656:=by simp; omega
      have HCL:=Lib.hid (fun W=>clone_any (s.extract xa xe) W hxs)
      have hfz:=(HR.out.at_ k hlt)
      have hlg:=HR.out.lt
      have HFZ:Hid (∀ wz:World,Below wr.heap.size wr wz→wz.cell? ⟨W.heap.size,k,none⟩=some (.string ⟨#[]⟩)∧wz.frozen? ⟨W.heap.size,k,none⟩=false):=Lib.hid fun wz hz=>⟨((hz.cell (p:=⟨W.heap.size,k,none⟩) hlg).trans hfz.1).trans (by simp),(hz.frozen (p:=⟨W.heap.size,k,none⟩) hlg).trans hfz.2⟩
      have r1:(0:Int)≤(k:Int):=by omega
      have r2:(k:Int) < (m:Int):=by omega
      have HB0:Hid (Below wr.heap.size wr (wr.alloc (.cells #[.int .i64 fl,.int .i64 (xa:Int),.int .i64 (xe:Int),.int .i64 sp,.bool dc] 41))):=Lib.hid ((Below.refl _ _).alloc (Nat.le_refl _) _)
      clear hxs hfz
      go_wp2_with fail
      refine (HCL.out _).mono ?_
      rintro y w3 ⟨rfl,hb3⟩
      have hb4:Below wr.heap.size wr w3:=HB0.out.trans (hb3.mono HB0.out.size)
      obtain ⟨f1,f2⟩:=HFZ.out w3 hb4
      have HB4:=Lib.hid hb4
      generalize hX:s.extract xa xe=X at *
      have HX:=Lib.hid hX
      clear hb3 hb4 hX
      go_wp2_with fail
      go_roundw
      case rel=>exact ⟨k+1,by omega,by go_num,Lib.hid (HE.out w3 HB4.out),Lib.hid ((HB.out.trans (HB4.out.mono hsz)).setCell (Nat.le_refl _) _)⟩
      case measure=>simp [intOf]; omega
     ·have HE:=Lib.hid (HNX.out (by rw [HNT.out]; simp [h2]))
      go_wp2_with fail
      go_roundw
      case rel=>exact ⟨k+1,by omega,by go_num,Lib.hid (HE.out.step ((Below.refl _ _).alloc (Nat.le_refl _) _)),HBA⟩
      case measure=>simp [intOf]; omega
    ·have HE:=Lib.hid (HNX.out (by rw [HNT.out]; simp [h1]))
     go_wp2_with fail
     go_roundw
     case rel=>exact ⟨k+1,by omega,by go_num,Lib.hid (HE.out.step ((Below.refl _ _).alloc (Nat.le_refl _) _)),HBA⟩
     case measure=>simp [intOf]; omega
   ·have HE:=Lib.hid (HNX.out (by rw [HNT.out]; simp [h0]))
    go_wp2_with fail
    go_roundw
    case rel=>exact ⟨k+1,by omega,by go_num,Lib.hid (HE.out.step ((Below.refl _ _).alloc (Nat.le_refl _) _)),HBA⟩
    case measure=>simp [intOf]; omega
  ·have hkm:k=m:=by omega
   subst hkm
   go_wp2_with fail
   go_ret
   refine ⟨_,rfl,Nat.le_refl _,⟨HR.out.lt,fun i hi=>?_⟩,HB.out⟩
   have:=HR.out.at_ i hi
   rw [decide_eq_true hi] at this
   exact this
end Go.Proofs.YtmpmfamiegpmgaaGreatDoor

namespace Go.Proofs.YtmpmfamiegpmgaaGreatDoor
open Go.RowKit
set_option maxRecDepth 20000
set_option linter.unusedVariables false
set_option linter.unusedSimpArgs false

/-- Occurrences as cells. -/
def ocells (l:List OccV):List Value:=l.flatMap OccV.cells
theorem ocells_append (a b:List OccV):ocells (a++b)=ocells a++ocells b:=by simp [ocells]
theorem ocells_length (l:List OccV):(ocells l).length=l.length * 5:=by
 induction l with
 | nil=>rfl
 | cons v r ih=>simp only [ocells,List.flatMap_cons,List.length_append] at *; rw [ih]; simp [OccV.cells]; omega
theorem ocells_get (l:List OccV) (j:Nat) (v:OccV) (h:l[j]?=some v) (r:Nat) (hr:r < 5):(ocells l)[j * 5+r]?=v.cells[r]?:=by
 induction l generalizing j with
 | nil=>simp at h
 | cons x t ih =>
  have hx:x.cells.length=5:=rfl
  simp only [ocells,List.flatMap_cons] at *
  cases j with
  | zero =>
   simp only [List.getElem?_cons_zero,Option.some.injEq] at h
   subst h
   rw [Nat.zero_mul,Nat.zero_add,List.getElem?_append_left (by omega)]
  | succ j =>
   simp only [List.getElem?_cons_succ] at h
   rw [List.getElem?_append_right (by omega),show (j+1) * 5+r - x.cells.length=j * 5+r by omega]
   exact ih j h
theorem ocells_news {W:World} {oa:Nat} {l:List OccV} (h:∀ j v,l[j]?=some v→OccAt W oa (j * 5) v):∀ j u,(ocells l)[j]?=some u→W.cell? ⟨oa,j,none⟩=some u:=by
 intro j u hj
 have hlt:j < l.length * 5:=by rw [← ocells_length]; exact (List.getElem?_eq_some_iff.1 hj).1
 have hq:j / 5 < l.length:=by omega
 obtain ⟨v,hv⟩:∃ v,l[j / 5]?=some v:=⟨_,List.getElem?_eq_getElem hq⟩
 have hg:=ocells_get l (j / 5) v hv (j % 5) (by omega)
 have e:j / 5 * 5+j % 5=j:=by omega
 rw [e,hj] at hg
 obtain ⟨a0,a1,a2,a3,a4⟩:=h _ v hv
 have hr:j % 5=0∨j % 5=1∨j % 5=2∨j % 5=3∨j % 5=4:=by omega
 rcases hr with hr | hr | hr | hr | hr
 ·rw [hr] at hg; rw [show j=j / 5 * 5 by omega,a0,hg]; rfl
 ·rw [hr] at hg; rw [show j=j / 5 * 5+1 by omega,a1,hg]; rfl
 ·rw [hr] at hg; rw [show j=j / 5 * 5+2 by omega,a2,hg]; rfl
 ·rw [hr] at hg; rw [show j=j / 5 * 5+3 by omega,a3,hg]; rfl
 ·rw [hr] at hg; rw [show j=j / 5 * 5+4 by omega,a4,hg]; rfl
theorem ocells_at {W:World} {base n c g:Nat} {l:List OccV} (h:W.ownsRow base 41 5 (.slice (some ⟨g,0,none⟩) n c) n (ocells l)) (j:Nat) (v:OccV) (hj:l[j]?=some v):OccAt W g (j * 5) v :=
 ⟨own_cell h _ _ (ocells_get l j v hj 0 (by omega)),own_cell h _ _ (ocells_get l j v hj 1 (by omega)),own_cell h _ _ (ocells_get l j v hj 2 (by omega)),own_cell h _ _ (ocells_get l j v hj 3 (by omega)),own_cell h _ _ (ocells_get l j v hj 4 (by omega))⟩
/-- A part with its occurrences. -/
structure PV where
 pc:PC
 os:List OccV
structure PVAt (W:World) (q:PV):Prop where
 m:q.pc.m=q.os.length
 lt:q.pc.oa < W.heap.size
 at_:∀ j v,q.os[j]?=some v→OccAt W q.pc.oa (j * 5) v
theorem PVAt.step {W W':World} {q:PV} (h:PVAt W q) (hb:Below W.heap.size W W'):PVAt W' q :=
 ⟨h.m,Nat.lt_of_lt_of_le h.lt hb.size,fun j v hj=>(h.at_ j v hj).ext fun r _=>hb.cell (p:=⟨q.pc.oa,_,none⟩) h.lt⟩
def allOs (qs:List PV):List OccV:=qs.flatMap (·.os)
theorem allOs_snoc (qs:List PV) (q:PV):allOs (qs++[q])=allOs qs++q.os:=by simp [allOs]
theorem allOs_take (qs:List PV) (k:Nat) (q:PV) (h:qs[k]?=some q):allOs (qs.take (k+1))=allOs (qs.take k)++q.os:=by
 obtain ⟨hk,e⟩:=List.getElem?_eq_some_iff.1 h
 rw [List.take_succ_eq_append_getElem hk,allOs_snoc,e]
theorem allOs_le (qs:List PV) (k:Nat):(allOs (qs.take k)).length≤(allOs qs).length:=by
 have h2:(allOs (qs.take k++qs.drop k)).length=(allOs (qs.take k)).length+(allOs (qs.drop k)).length:=by simp only [allOs,List.flatMap_append,List.length_append]
 rw [List.take_append_drop] at h2; omega
set_option maxHeartbeats 4000000 in
theorem occs_any (W:World) (pu gp:Nat) (qs:List PV) (hu:UAt W pu gp (qs.map PV.pc)) (hq:∀ q ∈ qs,PVAt W q) (hN:(allOs qs).length≤10000000) (hL:qs.length≤100000) :
  Calls Tryz.prog 49 #[.pointer (some ⟨pu,0,none⟩)] W fun e W'=>∃ v,e=.returned v∧W'.ownsRow W.heap.size 41 5 v (allOs qs).length (ocells (allOs qs))∧Below W.heap.size W W':=by
 obtain ⟨i41,hi41,hy0,hy1,hy2⟩:∃ i41,Tryz.prog.info? 41=some i41∧i41.zero=some (.agg #[.int .i64 0,.int .i64 0,.int .i64 0,.int .i64 0,.bool false])∧i41.size=5∧i41.bytes=40:=by
  refine ⟨_,rfl,?_,?_,?_⟩ <;> kernel_rfl
 have HA:=Lib.hid (all_some W pu _ hu.u)
 have HU:=Lib.hid hu
 have HQ:=Lib.hid hq
 rw [List.length_map] at HA
 clear hu hq
 go_enter Tryz.func49,Tryz.ntmps49
 go_wp2_with fail
 refine HA.out.mono ?_
 rintro e w1 ⟨rfl,rfl⟩
 go_wp2_with fail
 go_loopw [3,9] (fun v i wr=>∃ k:Nat,k≤qs.length∧i=.int .i64 k∧Hid (wr.ownsRow W.heap.size 41 5 v (allOs (qs.take k)).length (ocells (allOs (qs.take k))))∧Hid (Below W.heap.size W wr)) (fun _ i _=>qs.length - (intOf i).toNat)
 case atStart=>exact ⟨0,by omega,rfl,Lib.hid ⟨rfl,.inl ⟨rfl,rfl⟩⟩,Lib.hid (Below.refl _ _)⟩
 case round =>
  obtain ⟨k,hk,rfl,HR,HB⟩:=hrel
  by_cases hlt:k < qs.length
  ·obtain ⟨q,hqk⟩:∃ q,qs[k]?=some q:=⟨_,List.getElem?_eq_getElem hlt⟩
   have hpk:(qs.map PV.pc)[k]?=some q.pc:=by rw [List.getElem?_map,hqk]; rfl
   have hbw:=HB.out
   have hu2:=HU.out.step hbw
   obtain ⟨p0,p1,p2,p3,p4,p5,p6,p7,p8,p9⟩:=hu2.part k q.pc hpk
   have hqa:=(HQ.out q (List.mem_of_getElem? hqk)).step hbw
   have hsz:=hbw.size
   have htk:=allOs_take qs k q hqk
   have hle:=allOs_le qs (k+1)
   rw [htk,List.length_append] at hle
   have hm:=hqa.m
   obtain ⟨⟨⟨nm,tx⟩,⟨hk0,hm0,hf0,ht0,np,nn,nc,ns,kp,kn,kc⟩,first,oa,m⟩,os⟩:=q
   simp only at p0 p1 p2 p3 p4 p5 p6 p7 p8 p9 hm hle
   obtain ⟨WB,hWB⟩:∃ WB,WB=wr.alloc (.cells #[.string nm,.string tx,.int .i64 hk0,.int .i64 hm0,.int .i64 hf0,.int .i64 ht0,.slice np nn nc,.slice kp kn kc,.int .i64 first,.slice (some ⟨oa,0,none⟩) m m] 132):=⟨_,rfl⟩
   have hb0:Below wr.heap.size wr WB:=by rw [hWB]; exact (Below.refl _ _).alloc (Nat.le_refl _) _
   have hbc:∀ j:Nat,WB.cell? ⟨wr.heap.size,j,none⟩=(#[.string nm,.string tx,.int .i64 hk0,.int .i64 hm0,.int .i64 hf0,.int .i64 ht0,.slice np nn nc,.slice kp kn kc,.int .i64 first,.slice (some ⟨oa,0,none⟩) m m]:Array Value)[j]?:=fun j=>by rw [hWB]; exact Lib.cell_of_heap (heap_alloc_new wr _) j
   have b9:WB.cell? ⟨wr.heap.size,9,none⟩=some (.slice (some ⟨oa,0,none⟩) m m):=hbc 9
   have hrow:WB.ownsRow W.heap.size 41 5 u3 (allOs (qs.take k)).length (ocells (allOs (qs.take k))):=by rw [hWB]; exact HR.out.alloc _
   have hnews:∀ j u,(ocells os)[j]?=some u→WB.cell? ((⟨oa,0,none⟩:Addr).add j)=some u:=fun j u hj=>by
    have ha:((⟨oa,0,none⟩:Addr).add j)=⟨oa,j,none⟩:=by unfold Addr.add; split <;> simp_all
    rw [ha]
    exact ocells_news (fun j v hv=>((hqa.step hb0).at_ j v hv)) j u hj
   have h1:∀ u ∈ ocells os,u.oneCell'=true:=fun u hu=>by
    obtain ⟨v,_,hv⟩:=List.mem_flatMap.1 hu
    simp only [OccV.cells,List.mem_cons,List.not_mem_nil,or_false] at hv
    rcases hv with rfl | rfl | rfl | rfl | rfl <;> rfl
   have HBB:Hid (Below W.heap.size W WB):=Lib.hid (hbw.trans (hb0.mono hsz))
   have hbz:=HBB.out.size
   have HTK:=Lib.hid htk
   have HWB:=Lib.hid hWB
   have hlen:=ocells_length os
   obtain ⟨N0,hN0⟩:∃ N0,N0=(allOs (qs.take k)).length:=⟨_,rfl⟩
   rw [← hN0] at hrow hle
   have HN0:=Lib.hid hN0
   have hmn:(ocells os).length=m * 5:=by rw [hlen,hm]
   have hNm:N0+m≤10000000:=by omega
   clear hN0 htk hlen hbw hu2 hqa hbc hpk hm hle hb0 hqk hWB
   go_upto_region 5 with (fail)
   rw [← HWB.out]
   go_wp2_with (first
    | (at_builtin; refine wpList_append_own _ rfl _ _ 27 rfl W.heap.size 41 i41 _ 5 40 Tryz.underlying27 hi41 hy0 hy1 hy2 rfl (by decide) _ _ _ rfl hrow ⟨oa,0,none⟩ m m (ocells os) rfl hmn hnews h1 (by unfold maxLen; omega) (by omega) hbz ?_; intro v' w3 hown' hg3 hnil3)
    | go_in)
   have HO':=Lib.hid hown'
   have HG3:=Lib.hid (HBB.out.grown hg3 hbz (fun j hj=>(World.ownsRow.lt hrow j hj).1))
   clear hown' hg3 hnil3 hrow hnews
   go_roundw
   case rel =>
    refine ⟨k+1,by omega,by go_num,Lib.hid ?_,HG3⟩
    rw [HTK.out,ocells_append,List.length_append,← HN0.out]
    have:=HO'.out
    rw [show os.length=m by rw [ocells_length] at hmn; omega]
    exact this
   case measure=>simp [intOf]; omega
  ·have hkn:k=qs.length:=by omega
   have HR2:Hid (wr.ownsRow W.heap.size 41 5 u3 (allOs qs).length (ocells (allOs qs))):=Lib.hid (by have:=HR.out; rw [hkn,List.take_length] at this; exact this)
   clear HR
   have hlt2:¬ (k:Int) < (qs.length:Int):=by omega
   clear hkn
   go_wp2_with fail
   go_ret
   exact ⟨_,rfl,HR2.out,HB.out⟩
end Go.Proofs.YtmpmfamiegpmgaaGreatDoor

namespace Go.Proofs.YtmpmfamiegpmgaaGreatDoor
open Go.RowKit
set_option maxRecDepth 20000
set_option linter.unusedVariables false
set_option linter.unusedSimpArgs false

def nmOs (q:PV):List ByteArray:=q.os.map fun v=>nameT q.pc.f.2 v.at_ v.end_
def allNm (qs:List PV):List ByteArray:=qs.flatMap nmOs
theorem allNm_take (qs:List PV) (k:Nat) (q:PV) (h:qs[k]?=some q):allNm (qs.take (k+1))=allNm (qs.take k)++q.os.map fun v=>nameT q.pc.f.2 v.at_ v.end_:=by
 obtain ⟨hk,e⟩:=List.getElem?_eq_some_iff.1 h
 rw [List.take_succ_eq_append_getElem hk,e]
 simp [allNm,nmOs]
theorem allNm_le (qs:List PV) (k:Nat):(allNm (qs.take k)).length≤(allNm qs).length:=by
 have h2:(allNm (qs.take k++qs.drop k)).length=(allNm (qs.take k)).length+(allNm (qs.drop k)).length:=by simp only [allNm,List.flatMap_append,List.length_append]
 rw [List.take_append_drop] at h2; omega
set_option maxHeartbeats 4000000 in
theorem names_any (W:World) (pu gp:Nat) (qs:List PV) (hu:UAt W pu gp (qs.map PV.pc)) (hq:∀ q ∈ qs,PVAt W q) (hN:(allNm qs).length≤10000000) (hS:∀ q ∈ qs,q.pc.f.2.size≤1000000) (hL:qs.length≤100000) :
  Calls Tryz.prog 50 #[.pointer (some ⟨pu,0,none⟩)] W fun e W'=>∃ v,e=.returned v∧W'.ownsRow W.heap.size 9 1 v (allNm qs).length ((allNm qs).map Value.string)∧Below W.heap.size W W':=by
 obtain ⟨i9,hi9,hy0,hy1,hy2⟩:∃ i9,Tryz.prog.info? 9=some i9∧i9.zero=some (.string ⟨#[]⟩)∧i9.size=1∧i9.bytes=16:=by
  refine ⟨_,rfl,?_,?_,?_⟩ <;> kernel_rfl
 have HA:=Lib.hid (all_some W pu _ hu.u)
 have HU:=Lib.hid hu
 have HQ:=Lib.hid hq
 have HSS:=Lib.hid hS
 rw [List.length_map] at HA
 clear hu hq hS
 go_enter Tryz.func50,Tryz.ntmps50
 go_wp2_with fail
 refine HA.out.mono ?_
 rintro e w1 ⟨rfl,rfl⟩
 go_wp2_with fail
 go_loopw [3,9] (fun v i wr=>∃ k:Nat,k≤qs.length∧i=.int .i64 k∧Hid (wr.ownsRow W.heap.size 9 1 v (allNm (qs.take k)).length ((allNm (qs.take k)).map Value.string))∧Hid (Below W.heap.size W wr)) (fun _ i _=>qs.length - (intOf i).toNat)
 case atStart=>exact ⟨0,by omega,rfl,Lib.hid ⟨rfl,.inl ⟨rfl,rfl⟩⟩,Lib.hid (Below.refl _ _)⟩
 case round =>
  obtain ⟨k,hk,rfl,HR,HB⟩:=hrel
  by_cases hlt:k < qs.length
  ·obtain ⟨q,hqk⟩:∃ q,qs[k]?=some q:=⟨_,List.getElem?_eq_getElem hlt⟩
   have hpk:(qs.map PV.pc)[k]?=some q.pc:=by rw [List.getElem?_map,hqk]; rfl
   have hbw:=HB.out
   have hu2:=HU.out.step hbw
   obtain ⟨p0,p1,p2,p3,p4,p5,p6,p7,p8,p9⟩:=hu2.part k q.pc hpk
   have hqa:=(HQ.out q (List.mem_of_getElem? hqk)).step hbw
   have hsz:=hbw.size
   have htk:=allNm_take qs k q hqk
   have hle:=allNm_le qs (k+1)
   rw [htk,List.length_append] at hle
   have hm:=hqa.m
   obtain ⟨⟨⟨nm,tx⟩,⟨hk0,hm0,hf0,ht0,np,nn,nc,ns,kp,kn,kc⟩,first,oa,m⟩,os⟩:=q
   simp only at p0 p1 p2 p3 p4 p5 p6 p7 p8 p9 hm hle
   obtain ⟨WB,hWB⟩:∃ WB,WB=wr.alloc (.cells #[.string nm,.string tx,.int .i64 hk0,.int .i64 hm0,.int .i64 hf0,.int .i64 ht0,.slice np nn nc,.slice kp kn kc,.int .i64 first,.slice (some ⟨oa,0,none⟩) m m] 132):=⟨_,rfl⟩
   have hb0:Below wr.heap.size wr WB:=by rw [hWB]; exact (Below.refl _ _).alloc (Nat.le_refl _) _
   have hbc:∀ j:Nat,WB.cell? ⟨wr.heap.size,j,none⟩=(#[.string nm,.string tx,.int .i64 hk0,.int .i64 hm0,.int .i64 hf0,.int .i64 ht0,.slice np nn nc,.slice kp kn kc,.int .i64 first,.slice (some ⟨oa,0,none⟩) m m]:Array Value)[j]?:=fun j=>by rw [hWB]; exact Lib.cell_of_heap (heap_alloc_new wr _) j
   have b9:WB.cell? ⟨wr.heap.size,9,none⟩=some (.slice (some ⟨oa,0,none⟩) m m):=hbc 9
   have hrow:WB.ownsRow W.heap.size 9 1 u3 (allNm (qs.take k)).length ((allNm (qs.take k)).map Value.string):=by rw [hWB]; exact HR.out.alloc _
   have b1:WB.cell? ⟨wr.heap.size,1,none⟩=some (.string tx):=hbc 1
   have HBB:Hid (Below W.heap.size W WB):=Lib.hid (hbw.trans (hb0.mono hsz))
   have hbz:=HBB.out.size
   have HTK:=Lib.hid htk
   have HWB:=Lib.hid hWB
   have hqo:=hqa.step hb0
   have hm9:m≤10000000:=by rw [List.length_map] at hle; omega
   have H36:=Lib.hid (names36_any tx (HSS.out _ (List.mem_of_getElem? hqk)) oa m m hm9 (fun j=>(os[j]?.map (·.at_)).getD 0) (fun j=>(os[j]?.map (·.end_)).getD 0) WB hqo.lt (fun j hj=>by
    obtain ⟨v,hv⟩:∃ v,os[j]?=some v:=⟨_,List.getElem?_eq_getElem (by omega)⟩
    obtain ⟨a0,a1,a2,a3,a4⟩:=hqo.at_ j v hv
    rw [hv]
    exact ⟨v.file,v.sp,v.decl,a0,a1,a2,a3,a4⟩))
   obtain ⟨N0,hN0⟩:∃ N0,N0=(allNm (qs.take k)).length:=⟨_,rfl⟩
   rw [← hN0] at hrow hle
   have HN0:=Lib.hid hN0
   have HMO:Hid (m=os.length):=Lib.hid hm
   have hNm:N0+m≤10000000:=by rw [List.length_map] at hle; omega
   clear hN0 htk hbw hu2 hqo hm9 hqa hbc hpk hm hle hb0 hqk hWB
   go_upto_region 5 with (fail)
   rw [← HWB.out]
   go_wp2_with fail
   refine H36.out.mono ?_
   rintro y w3 ⟨g3,rfl,hg3,hnr,hb3⟩
   have hrow3:=World.ownsRow.kept hrow (grown_below hb3 none) (Classical.em _)
   have hb5:=HBB.out.trans (hb3.mono hbz)
   have hb5z:=hb5.size
   have HB5:=Lib.hid hb5
   have hnews:∀ j u,((os.map fun v=>Value.string (nameT tx v.at_ v.end_)))[j]?=some u→w3.cell? ((⟨g3,0,none⟩:Addr).add j)=some u:=fun j u hj=>by
    have ha:((⟨g3,0,none⟩:Addr).add j)=⟨g3,j,none⟩:=by unfold Addr.add; split <;> simp_all
    rw [ha]
    obtain ⟨v,hv,rfl⟩:∃ v,os[j]?=some v∧Value.string (nameT tx v.at_ v.end_)=u:=by simpa using hj
    have hjm:j < m:=by rw [HMO.out]; exact (List.getElem?_eq_some_iff.1 hv).1
    have:=(hnr.at_ j hjm).1
    rw [hv] at this
    exact this
   have h1:∀ u ∈ (os.map fun v=>Value.string (nameT tx v.at_ v.end_)),u.oneCell'=true:=fun u hu=>by
    obtain ⟨v,_,rfl⟩:=List.mem_map.1 hu; rfl
   have hml:(os.map fun v=>Value.string (nameT tx v.at_ v.end_)).length=m * 1:=by rw [List.length_map,Nat.mul_one,HMO.out]
   clear hb3 hnr hb5 H36 hrow
   go_wp2_with (first
    | (at_builtin; refine wpList_append_own _ rfl _ _ 49 rfl W.heap.size 9 i9 _ 1 16 Tryz.underlying49 hi9 hy0 hy1 hy2 rfl (by decide) _ _ _ rfl hrow3 ⟨g3,0,none⟩ m m (os.map fun v=>Value.string (nameT tx v.at_ v.end_)) rfl hml hnews h1 (by unfold maxLen; omega) (by omega) hb5z ?_; intro v' w4 hown' hg4 hnil4)
    | go_in)
   have HO':=Lib.hid hown'
   have HG3:=Lib.hid (HB5.out.grown hg4 hb5z (fun j hj=>(World.ownsRow.lt hrow3 j hj).1))
   clear hown' hg4 hnil4 hrow3 hnews
   go_roundw
   case rel =>
    refine ⟨k+1,by omega,by go_num,Lib.hid ?_,HG3⟩
    rw [HTK.out,List.map_append,List.length_append,← HN0.out]
    have:=HO'.out
    rw [List.length_map,← HMO.out,List.map_map]
    exact this
   case measure=>simp [intOf]; omega
  ·have hkn:k=qs.length:=by omega
   have HR2:Hid (wr.ownsRow W.heap.size 9 1 u3 (allNm qs).length ((allNm qs).map Value.string)):=Lib.hid (by have:=HR.out; rw [hkn,List.take_length] at this; exact this)
   clear HR
   have hlt2:¬ (k:Int) < (qs.length:Int):=by omega
   clear hkn
   go_wp2_with fail
   go_ret
   exact ⟨_,rfl,HR2.out,HB.out⟩
end Go.Proofs.YtmpmfamiegpmgaaGreatDoor
