/-
  The document's Digits, below ten thousand; unlike numbers have unlike digits.; An empty file.; The law UnitMany, walked.; The law UnitMany, as its row wants it.
-/
import Derived.Test.YtmpmfamiegpmgaaGreatDoorFA
import Derived.Laws.BytesString
import Derived.Lib.ItoaNum
import Derived.OwnWalk
import Derived.Test.YtmpmfamiegpmgaaGreatDoorFCD
import Derived.Test.YtmpmfamiegpmgaaGreatDoorFCE
import Derived.Deep.Cut
namespace Go.Proofs.YtmpmfamiegpmgaaGreatDoor
open Go.RowKit
set_option maxRecDepth 20000
set_option linter.unusedVariables false
set_option linter.unusedSimpArgs false

theorem one_newD (w:World) (x:Value) (t:TypeId):∀ j u,([x]:List Value)[j]?=some u→(w.alloc (.cells #[x] t)).cell? ((⟨w.heap.size,0,none⟩:Addr).add j)=some u:=fun j u hj=>by
 have ha:((⟨w.heap.size,0,none⟩:Addr).add j)=⟨w.heap.size,j,none⟩:=by unfold Addr.add; split <;> simp_all
 rw [ha,Lib.cell_of_heap (heap_alloc_new w _)]
 simpa using hj
/-- 'string([]byte{x})'. -/
theorem cvD (w:World) (n:Nat) (hn:n=w.heap.size) (x:Int):(convert 139 9 (.slice (some ⟨n,0,none⟩) 1 1)).run Tryz.prog (w.alloc (.cells #[.int .u8 x] 5))=.ok (.string ⟨#[UInt8.ofNat x.toNat]⟩) (w.alloc (.cells #[.int .u8 x] 5)):=by
 subst hn
 rw [run_convert_bytes_string _ 139 9 5 _ _ _ Tryz.underlying139 Tryz.underlying5 Tryz.underlying9]
 have h:=run_loadCells_list (P:=Tryz.prog) (w.alloc (.cells #[.int .u8 x] 5)) ⟨w.heap.size,0,none⟩ [.int .u8 x] (one_newD w _ 5)
 rw [run_bytesToString _ _ 1 1 [x] h]
 rfl
theorem addD (a b:ByteArray) (ha:a.size≤1000000) (hb:b.size≤1000000) (w:World):(Op.stringOp .add a b).run Tryz.prog w=.ok (.string (a++b)) w :=
 run_string_add_sum w a b (by omega)
/-- The number that digits say. -/
def valD (l:List UInt8):Nat:=l.foldl (fun a c=>a * 10+(c.toNat - 48)) 0
theorem valD_snoc (l:List UInt8) (c:UInt8):valD (l++[c])=valD l * 10+(c.toNat - 48):=by simp [valD,List.foldl_append]
theorem dig_val (d:Nat) (h:d < 10):(UInt8.ofNat (48+d)).toNat - 48=d:=by
 rw [UInt8.toNat_ofNat_of_lt' (by show 48+d < 256; omega)]; omega
theorem valD_dec (u:Nat):valD (Lib.decDigits u)=u:=by
 induction u using Nat.strongRecOn with
 | ind u ih =>
  rw [Lib.decDigits]
  split
  ·rename_i h
   have:=dig_val u h
   simp [valD]
   omega
  ·rename_i h
   rw [valD_snoc,ih (u / 10) (by omega),dig_val (u % 10) (by omega)]
   omega
/-- A number's digits, as a text. -/
def digT (u:Nat):ByteArray:=⟨(Lib.decDigits u).toArray⟩
theorem digT_inj {u v:Nat} (h:digT u=digT v):u=v:=by
 have h1:Lib.decDigits u=Lib.decDigits v:=by
  have:=congrArg (fun b:ByteArray=>b.data.toList) h
  simpa [digT] using this
 rw [← valD_dec u,← valD_dec v,h1]
theorem dec_step (m:Nat) (h:¬ m < 10) (l:List UInt8):Lib.decDigits m++l=Lib.decDigits (m / 10)++(UInt8.ofNat (48+m % 10) :: l):=by
 rw [Lib.decDigits,dif_neg h]; simp
theorem dec_len (u:Nat) (h:u < 10000):(Lib.decDigits u).length≤4:=by
 have one:∀ u,u < 10→(Lib.decDigits u).length≤1:=fun u h=>by rw [Lib.decDigits,dif_pos h]; simp
 have st:∀ u k,(u < 10→1≤k+1)→(Lib.decDigits (u / 10)).length≤k→(Lib.decDigits u).length≤k+1:=fun u k h1 h2=>by
  by_cases hu:u < 10
  ·have:=one u hu; omega
  ·rw [Lib.decDigits,dif_neg hu]; simp; exact h2
 exact st u 3 (by omega) (st _ 2 (by omega) (st _ 1 (by omega) (one _ (by omega))))
set_option maxHeartbeats 4000000 in
theorem digits51_any (q:Nat) (w:World) (h:q < 10000):Calls Tryz.prog 51 #[.int .i64 (q:Int)] w fun e w'=>e=.returned (.string (digT q))∧Below w.heap.size w w':=by
 go_enter Tryz.func51,Tryz.ntmps51
 go_wp2_with fail
 go_loopw [0,3,4] (fun v t i wr=>∃ (m r:Nat) (o:ByteArray),r≤3∧i=.int .i64 r∧v=.int .i64 m∧t=.string o∧o.size≤1000∧Hid ((r=0→m < 10000)∧(r=1→m < 1000)∧(r=2→m < 100)∧(r=3→m < 10))∧Hid (o.size=r)∧Hid (Lib.decDigits q=Lib.decDigits m++o.data.toList)∧Hid (Below w.heap.size w wr)) (fun _ _ i _=>20 - (intOf i).toNat)
 case atStart=>exact ⟨q,0,⟨#[]⟩,by omega,rfl,rfl,rfl,by decide,Lib.hid ⟨fun _=>h,by omega,by omega,by omega⟩,Lib.hid rfl,Lib.hid (by simp),Lib.hid (Below.refl _ _)⟩
 case round =>
  obtain ⟨m,r,o,hr,rfl,rfl,rfl,hos,HM,HOR,HD,HB⟩:=hrel
  have c0:=cvD wr wr.heap.size rfl (48+(m:Int) % 10)
  have ht:(48+(m:Int) % 10).toNat=48+m % 10:=by omega
  rw [ht] at c0
  obtain ⟨c,hc⟩:∃ c,c=UInt8.ofNat (48+m % 10):=⟨_,rfl⟩
  rw [← hc] at c0
  have hd:=addD ⟨#[c]⟩ o (show 1≤1000000 by decide) (by omega)
  obtain ⟨X,hX⟩:∃ X,X=(⟨#[c]⟩:ByteArray)++o:=⟨_,rfl⟩
  rw [← hX] at hd
  have hXs:X.size=o.size+1:=by rw [hX,ByteArray.size_append]; show 1+o.size=_; omega
  have hXd:X.data.toList=c :: o.data.toList:=by rw [hX,ByteArray.data_append]; simp
  have HXS:=Lib.hid hXs
  have HXD:=Lib.hid hXd
  have HC:=Lib.hid hc
  have hm9:m < 10000:=by
   obtain ⟨h0,h1,h2,h3⟩:=HM.out
   have:r=0∨r=1∨r=2∨r=3:=by omega
   rcases this with h | h | h | h
   ·exact h0 h
   ·have:=h1 h; omega
   ·have:=h2 h; omega
   ·have:=h3 h; omega
  have HBA:=Lib.hid (HB.out.alloc HB.out.size (.cells #[.int .u8 (48+(m:Int) % 10)] 5))
  clear hc hX hXs hXd ht
  by_cases h10:m < 10
  ·have e1:((m:Int) / 10 == 0)=true:=by rw [beq_iff_eq]; omega
   have HE:Hid (digT q=X):=Lib.hid (by
    rw [← Lib.mk_data X,HXD.out]
    unfold digT
    rw [HD.out,Lib.decDigits,dif_pos h10,HC.out,show m % 10=m by omega]
    rfl)
   go_wp2_with fail
   go_ret
   exact ⟨by rw [HE.out]; rfl,HBA.out⟩
  ·have e1:((m:Int) / 10 == 0)=false:=by rw [beq_eq_false_iff_ne]; omega
   have hr2:r≤2:=by
    obtain ⟨h0,h1,h2,h3⟩:=HM.out
    rcases Nat.lt_or_ge r 3 with h | h
    ·omega
    ·have:=h3 (by omega); omega
   obtain ⟨m1,hm1⟩:∃ m1:Nat,(m:Int) / 10=(m1:Int):=⟨m / 10,by omega⟩
   have HM1:Hid (m1=m / 10):=Lib.hid (by omega)
   have HMM:Hid ((r+1=0→m1 < 10000)∧(r+1=1→m1 < 1000)∧(r+1=2→m1 < 100)∧(r+1=3→m1 < 10)):=Lib.hid (by
    obtain ⟨h0,h1,h2,h3⟩:=HM.out
    have:=HM1.out
    refine ⟨by omega,fun h=>?_,fun h=>?_,fun h=>?_⟩
    ·have:=h0 (by omega); omega
    ·have:=h1 (by omega); omega
    ·have:=h2 (by omega); omega)
   have HDD:Hid (Lib.decDigits q=Lib.decDigits m1++X.data.toList):=Lib.hid (by rw [HD.out,HXD.out,dec_step m h10,HM1.out,HC.out])
   go_wp2_with fail
   go_roundw
   case rel=>exact ⟨m1,r+1,X,by omega,by go_num,rfl,rfl,by have:=HXS.out; have:=HOR.out; omega,HMM,Lib.hid (by rw [HXS.out,HOR.out]),HDD,HBA⟩
   case measure=>simp [intOf]; omega
end Go.Proofs.YtmpmfamiegpmgaaGreatDoor

namespace Go.Proofs.YtmpmfamiegpmgaaGreatDoor
open Go.RowKit
set_option maxRecDepth 20000
set_option linter.unusedVariables false
set_option linter.unusedSimpArgs false

abbrev ee_s:ByteArray:=⟨#[]⟩
theorem ee_scan:scanT ee_s=[⟨0,0,0⟩]:=by
 show scanF 0 0 []++[⟨0,0,0⟩]=_
 simp [scanF]
theorem ee_words:wordsT ee_s=[⟨0,0,0⟩]:=by
 unfold wordsT; rw [ee_scan]; rfl
theorem ee_first:(firstN ee_s).2=0:=by
 unfold firstN; rw [ee_scan]; decide
abbrev ee_b:Pb:=(.mk 1 0 0 0 [] [])
theorem ee_out (S:Src) (h1:S.s=ee_s) (h2:S.ts=wordsT ee_s):wholeO S (fileS S)=.ok ee_b 0:=by
 rw [ee_words] at h2
 obtain ⟨s,ts,g,gw,cw⟩:=S
 simp only at h1 h2
 subst h1 h2
 kernel_rfl
theorem ee_err {a c:Int} (hc:c≠0) (he:FileErr ee_s a c):False:=by
 rcases he with ⟨h1,_⟩ | ⟨_,S,h1,h2,_,⟨n,h3,_⟩ | ⟨n,h3,_⟩⟩
 ·exact h1 ee_first
 ·rw [ee_out S h1 h2] at h3; cases h3
 ·rw [ee_out S h1 h2] at h3; cases h3
end Go.Proofs.YtmpmfamiegpmgaaGreatDoor

namespace Go.Proofs.YtmpmfamiegpmgaaGreatDoor
open Go.RowKit
set_option maxRecDepth 20000
set_option linter.unusedVariables false
set_option linter.unusedSimpArgs false

theorem zeros76 (N j:Nat) (h:j < N * 2):(madeCells (Value.agg #[.string ⟨#[]⟩,.string ⟨#[]⟩]).cells (N * 2)).toList[j]?=some (.string ⟨#[]⟩):=by
 have hs:(Value.agg #[.string ⟨#[]⟩,.string ⟨#[]⟩]).cells=#[.string ⟨#[]⟩,.string ⟨#[]⟩]:=rfl
 rw [hs]
 have hm:j % 2=0∨j % 2=1:=by omega
 rcases hm with hm | hm <;> simp [madeCells,h,hm]
/-- A row of files of one's own, without texts. -/
structure FRow (W:World) (g N:Nat) (t:Nat→ByteArray):Prop where
 lt:g < W.heap.size
 at_:∀ i,i < N→W.cell? ⟨g,i * 2,none⟩=some (.string (t i))∧W.cell? ⟨g,i * 2+1,none⟩=some (.string ⟨#[]⟩)∧W.frozen? ⟨g,i * 2,none⟩=false
theorem FRow.step {W W':World} {g N:Nat} {t:Nat→ByteArray} (h:FRow W g N t) (hb:Below W.heap.size W W'):FRow W' g N t :=
 ⟨Nat.lt_of_lt_of_le h.lt hb.size,fun i hi=>⟨(hb.cell (p:=⟨g,i * 2,none⟩) h.lt).trans (h.at_ i hi).1,(hb.cell (p:=⟨g,i * 2+1,none⟩) h.lt).trans (h.at_ i hi).2.1,(hb.frozen (p:=⟨g,i * 2,none⟩) h.lt).trans (h.at_ i hi).2.2⟩⟩
theorem FRow.set {W:World} {g N:Nat} {t:Nat→ByteArray} (h:FRow W g N t) {j:Nat} (hj:j < N) (x:ByteArray):FRow (W.setCell ⟨g,j * 2,none⟩ (.string x)) g N (fun i=>bif i == j then x else t i):=by
 refine ⟨by simpa using h.lt,fun i hi=>⟨?_,?_,?_⟩⟩
 ·by_cases e:i=j
  ·subst e
   rw [World.cell?_setCell_same _ _ _ (h.at_ i hi).1]; simp
  ·rw [World.cell?_setCell_other _ _ _ _ (fun q=>e (by have:=(Addr.mk.inj q).2.1; omega)),(h.at_ i hi).1]
   have:(i == j)=false:=by simpa using e
   rw [this]; rfl
 ·rw [World.cell?_setCell_other _ _ _ _ (fun q=>by have:=(Addr.mk.inj q).2.1; omega)]
  exact (h.at_ i hi).2.1
 ·rw [World.frozen?_setCell]; exact (h.at_ i hi).2.2
theorem FRow.ext {W:World} {g N:Nat} {t u:Nat→ByteArray} (h:FRow W g N t) (e:∀ i,i < N→u i=t i):FRow W g N u:=⟨h.lt,fun i hi=>by rw [e i hi]; exact h.at_ i hi⟩
/-- The law's files. -/
def manyF (N A B:Nat):List FileV:=(List.range N).map fun i=>(bif i == B then digT A else digT i,⟨#[]⟩)
theorem manyF_get (N A B i:Nat) (h:i < N):(manyF N A B)[i]?=some (bif i == B then digT A else digT i,⟨#[]⟩):=by simp [manyF,h]
theorem manyF_len (N A B:Nat):(manyF N A B).length=N:=by simp [manyF]
theorem manyF_sum (N A B:Nat):sumT (manyF N A B)=0:=by
 unfold sumT manyF
 rw [List.map_map]
 have:∀ l:List Nat,(l.map ((fun f:FileV=>f.2.size) ∘ fun i=>((bif i == B then digT A else digT i,⟨#[]⟩):FileV))).sum=0:=by
  intro l
  induction l with
  | nil=>rfl
  | cons x r ih=>simp only [List.map_cons,List.sum_cons,ih]; rfl
 exact this _
theorem manyF_nd (N A B k:Nat) (hk:k≤N) (hA:k≤max A B∨A=B):(((manyF N A B).map (·.1)).take k).Nodup:=by
 have e:((manyF N A B).map (·.1)).take k=(List.range k).map fun i=>bif i == B then digT A else digT i:=by
  unfold manyF
  rw [List.map_map,← List.map_take,List.take_range,Nat.min_eq_left hk]; rfl
 rw [e,List.Nodup,List.pairwise_map,List.pairwise_iff_getElem]
 intro i j hi hj hij
 simp only [List.length_range] at hi hj
 simp only [List.getElem_range]
 intro heq
 by_cases h1:i=B
 ·have h2:(j == B)=false:=by simp; omega
  have h3:(i == B)=true:=by simpa using h1
  rw [h2,h3] at heq
  have:=digT_inj heq
  rcases hA with hA | hA <;> omega
 ·have h3:(i == B)=false:=by simpa using h1
  by_cases h2:j=B
  ·have h4:(j == B)=true:=by simpa using h2
   rw [h3,h4] at heq
   have:=digT_inj heq
   rcases hA with hA | hA <;> omega
  ·have h4:(j == B)=false:=by simpa using h2
   rw [h3,h4] at heq
   have:=digT_inj heq
   omega
theorem manyF_same (N A:Nat):TwiceAt ((manyF N A A).map (·.1)) N :=
 ⟨by simp [manyF],manyF_nd N A A N (Nat.le_refl _) (.inr rfl),fun h=>by simp [manyF] at h⟩
theorem manyF_twice (N A B:Nat) (hA:A < N) (hB:B < N) (hne:A≠B):TwiceAt ((manyF N A B).map (·.1)) (max A B):=by
 have hm:max A B < N:=by omega
 refine ⟨by simp [manyF]; omega,manyF_nd N A B _ (by omega) (.inl (Nat.le_refl _)),fun _=>⟨digT A,?_,?_⟩⟩
 ·rw [List.getElem?_map,manyF_get N A B _ hm]
  by_cases h:A < B
  ·have e:(max A B == B)=true:=by simp; omega
   rw [e]; rfl
  ·have e:(max A B == B)=false:=by simp; omega
   rw [e]
   have:max A B=A:=by omega
   rw [this]; rfl
 ·have e:((manyF N A B).map (·.1)).take (max A B)=(List.range (max A B)).map fun i=>bif i == B then digT A else digT i:=by
   unfold manyF
   rw [List.map_map,← List.map_take,List.take_range,Nat.min_eq_left (by omega)]; rfl
  rw [e,List.mem_map]
  by_cases h:A < B
  ·refine ⟨A,List.mem_range.2 (by omega),?_⟩
   have:(A == B)=false:=by simpa using hne
   rw [this]; rfl
  ·refine ⟨B,List.mem_range.2 (by omega),?_⟩
   simp
theorem digT_size (u:Nat) (h:u < 10000):(digT u).size≤4:=by
 have:=dec_len u h
 simpa [digT,ByteArray.size] using this
theorem tm_in (a:Int) (N:Nat) (h:995≤N∧N≤1005):∃ A:Nat,(wrap64 (a.tmod N+N)).tmod N=(A:Int)∧A < N:=by
 have t1:=Int.tmod_lt_of_pos a (show (0:Int) < (N:Int) by omega)
 have t2:-(N:Int) < a.tmod N:=Int.lt_tmod_of_pos a (show (0:Int) < (N:Int) by omega)
 have e1:wrap64 (a.tmod N+N)=a.tmod N+N:=by unfold wrap64; omega
 rw [e1]
 have t3:=Int.tmod_lt_of_pos (a.tmod N+N) (show (0:Int) < (N:Int) by omega)
 have t4:=Int.tmod_nonneg (N:Int) (show 0≤a.tmod N+N by omega)
 exact ⟨((a.tmod N+N).tmod N).toNat,by omega,by omega⟩
set_option maxHeartbeats 8000000 in
theorem many_any (n a b:Int) (h1:(Lit.int .i64 n).wf=true) (h2:(Lit.int .i64 a).wf=true) (h3:(Lit.int .i64 b).wf=true) (W:World) (hk:Kw W) :
  Calls Tryz.prog 13 #[.int .i64 n,.int .i64 a,.int .i64 b] W fun e w'=>e=.returned (.bool true)∧Below W.heap.size W w':=by
 obtain ⟨N,hN,hN1,hN2⟩:∃ N:Nat,wrap64 (995+(wrap64 (n.tmod 11+11)).tmod 11)=(N:Int)∧995≤N∧N≤1005:=by
  have t1:=Int.tmod_lt_of_pos n (show (0:Int) < 11 by omega)
  have t2:-11 < n.tmod 11:=by have:=Int.lt_tmod_of_pos n (show (0:Int) < 11 by omega); omega
  have e1:wrap64 (n.tmod 11+11)=n.tmod 11+11:=by unfold wrap64; omega
  rw [e1]
  have t3:=Int.tmod_lt_of_pos (n.tmod 11+11) (show (0:Int) < 11 by omega)
  have t4:=Int.tmod_nonneg 11 (show 0≤n.tmod 11+11 by omega)
  have e2:wrap64 (995+(n.tmod 11+11).tmod 11)=995+(n.tmod 11+11).tmod 11:=by unfold wrap64; omega
  rw [e2]
  exact ⟨(995+(n.tmod 11+11).tmod 11).toNat,by omega,by omega,by omega⟩
 have hNz:((N:Int) == 0)=false:=by simp; omega
 have hNz2:¬ (N:Int)=0:=by omega
 go_enter Tryz.func13,Tryz.ntmps13
 go_wp2_with fail
 rw [hN]
 clear hN
 go_quiet (fail)
 obtain ⟨A,hA,hAN⟩:=tm_in a N ⟨hN1,hN2⟩
 obtain ⟨B,hB,hBN⟩:=tm_in b N ⟨hN1,hN2⟩
 rw [hA,hB]
 clear hA hB
 have hb1:Below W.heap.size W (W.drewN nq):=below_drewN (Below.refl _ _) _
 generalize W.drewN nq=w1 at *
 have HB1:=Lib.hid hb1
 have hz1:=hb1.size
 have HK:=Lib.hid hk
 have HA:=Lib.hid (fun w=>alive10_any w)
 obtain ⟨i76,hi76,hy0,hy1,hy2⟩:∃ i,Tryz.prog.info? 76=some i∧i.zero=some (.agg #[.string ⟨#[]⟩,.string ⟨#[]⟩])∧i.size=2∧i.bytes=32:=by
  refine ⟨_,rfl,?_,?_,?_⟩ <;> kernel_rfl
 clear hb1 hk hNz hNz2
 go_wp2_with (first
  | (at_make; refine wpList_make_full _ rfl _ _ 61 rfl w1.heap.size 76 i76 _ 2 Tryz.underlying61 hi76 hy0 hy1 _ _ _ _ N rfl rfl rfl rfl (by rw [hy2]; omega) (by unfold maxLen; omega) (Nat.le_refl _) ?_; intro w2 hrow2 hg2)
  | go_in)
 obtain ⟨g,hg⟩:∃ g,g=w1.heap.size:=⟨_,rfl⟩
 have hfr2:FRow w2 w1.heap.size N (fun i=>bif decide (i < 0) then digT i else ⟨#[]⟩):=by
  have hc:∀ j:Nat,j < N * 2→w2.cell? ⟨w1.heap.size,j,none⟩=some (.string ⟨#[]⟩):=fun j hj=>by
   refine own_cell hrow2 j _ ?_
   have:=zeros76 N j hj
   exact this
  exact ⟨(World.ownsRow.lt hrow2 _ rfl).2,fun i hi=>⟨(hc (i * 2) (by omega)).trans (by simp),hc (i * 2+1) (by omega),own_frozen hrow2 _⟩⟩
 have hb2:Below W.heap.size W w2:=HB1.out.grown hg2 hz1 (fun j hj=>by cases hj)
 rw [← hg] at hfr2 ⊢
 have hgw:W.heap.size≤g:=by omega
 have HFR2:=Lib.hid hfr2
 have HB2:=Lib.hid hb2
 clear hrow2 hg2 hfr2 hb2 hg hy0 hy1 hy2 hi76
 go_loopw [34] (fun iv wr=>∃ k:Nat,k≤N∧iv=.int .i64 k∧Hid (FRow wr g N (fun i=>bif decide (i < k) then digT i else ⟨#[]⟩))∧Hid (Below W.heap.size W wr)) (fun iv _=>N - (intOf iv).toNat)
 case atStart=>exact ⟨0,by omega,rfl,HFR2,HB2⟩
 case round =>
  obtain ⟨k,hk,rfl,HFR,HB⟩:=hrel
  have hzr:=HB.out.size
  by_cases hlt:k < N
  ·have HD:=Lib.hid (digits51_any k wr (by omega))
   have r1:(0:Int)≤(k:Int):=by omega
   have r2:(k:Int) < (N:Int):=by omega
   go_wp2_with fail
   refine HD.out.mono ?_
   rintro x w3 ⟨rfl,hb3⟩
   have hf3:=HFR.out.step hb3
   obtain ⟨q0,_,q2⟩:=hf3.at_ k hlt
   have HF3:=Lib.hid hf3
   have HB3:=Lib.hid (HB.out.trans (hb3.mono hzr))
   clear hb3 hf3 HD
   obtain ⟨X,hX⟩:∃ X,X=digT k:=⟨_,rfl⟩
   rw [← hX]
   have HX:=Lib.hid hX
   clear hX
   go_wp2_with fail
   go_roundw
   case rel =>
    refine ⟨k+1,by omega,by go_num,Lib.hid ((HF3.out.set hlt X).ext fun i hi=>?_),Lib.hid (HB3.out.setCell hgw _)⟩
    rw [HX.out]
    by_cases h:i=k
    ·subst h; simp
    ·have e1:(i == k)=false:=by simpa using h
     have e2:decide (i < k+1)=decide (i < k):=by simp; omega
     rw [e1,e2]; rfl
   case measure=>simp [intOf]; omega
  ·have hkN:k=N:=by omega
   have hfr:FRow wr g N digT:=HFR.out.ext fun i hi=>by
    have:decide (i < k)=true:=by simp; omega
    rw [this]; rfl
   obtain ⟨a0,_,_⟩:=hfr.at_ A hAN
   obtain ⟨b0,_,b2⟩:=hfr.at_ B hBN
   have hfs:=hfr.set hBN (digT A)
   obtain ⟨DA,hDA⟩:∃ DA,DA=digT A:=⟨_,rfl⟩
   rw [← hDA] at a0 hfs
   obtain ⟨WX,hWX⟩:∃ WX,WX=wr.setCell ⟨g,B * 2,none⟩ (.string DA):=⟨_,rfl⟩
   rw [← hWX] at hfs
   have hbX:Below W.heap.size W WX:=by rw [hWX]; exact HB.out.setCell hgw _
   have hin:FIn WX (some ⟨g,0,none⟩) N N (manyF N A B):=by
    refine ⟨(manyF_len N A B).symm,.inr ⟨g,0,rfl,Nat.le_refl _,hfs.lt,fun i f hi=>?_⟩⟩
    have hiN:i < N:=by rw [← manyF_len N A B]; exact (List.getElem?_eq_some_iff.1 hi).1
    rw [manyF_get N A B i hiN] at hi
    obtain rfl:=Option.some.inj hi
    obtain ⟨c0,c1,_⟩:=hfs.at_ i hiN
    rw [hDA] at c0
    refine ⟨?_,?_⟩
    ·show WX.cell? ⟨g,0+i * 2,none⟩=_
     rw [Nat.zero_add]; exact c0
    ·show WX.cell? ⟨g,0+i * 2+1,none⟩=_
     rw [Nat.zero_add]; exact c1
   have hsz:∀ f ∈ manyF N A B,f.2=⟨#[]⟩∧f.1.size≤4:=fun f hf=>by
    obtain ⟨i,hi,rfl⟩:=List.mem_map.1 hf
    refine ⟨rfl,?_⟩
    have hi2:=List.mem_range.1 hi
    show (bif i == B then digT A else digT i).size≤4
    cases (i == B)
    ·exact digT_size i (by omega)
    ·exact digT_size A (by omega)
   have HL:=Lib.hid (fun t ht=>load_any (manyF N A B) t (some ⟨g,0,none⟩) N N WX (HK.out.step hbX) hin (by omega) (by rw [manyF_sum]; omega) (fun f hf=>by rw [(hsz f hf).1]; decide) (fun f hf=>by have:=(hsz f hf).2; omega) ht)
   have HBX:=Lib.hid hbX
   have HWX:=Lib.hid hWX
   have ra1:(0:Int)≤(A:Int):=by omega
   have ra2:(A:Int) < (N:Int):=by omega
   have rb1:(0:Int)≤(B:Int):=by omega
   have rb2:(B:Int) < (N:Int):=by omega
   subst hkN
   clear hfr hfs hbX hin hsz hDA hWX
   go_upto_region 10 with (fail)
   rw [← HWX.out]
   have heq:=eq65
   have case2:∀ t,TwiceAt ((manyF k A B).map (·.1)) t→Calls Tryz.prog 39 #[.slice (some ⟨g,0,none⟩) k k] WX fun x W'=>Below WX.heap.size WX W' ∧
     ((1000 < k∧x=.returned (.tuple #[.pointer none,.agg #[.int .i64 5,.int .i64 1000,.int .i64 0]])) ∨
      (k≤1000∧t < k∧x=.returned (.tuple #[.pointer none,.agg #[.int .i64 11,.int .i64 t,.int .i64 0]])) ∨
      (k≤1000∧t=k∧∃ pu gp qs nds,Loaded WX.heap.size (manyF k A B) GoodF pu gp qs nds W'∧x=.returned (.tuple #[.pointer (some ⟨pu,0,none⟩),.agg #[.int .i64 0,.int .i64 0,.int .i64 0]]))):=fun t ht=>by
    refine (HL.out t ht).mono ?_
    rintro x W' ⟨hb,hc⟩
    refine ⟨hb,?_⟩
    have hl:=manyF_len k A B
    rcases hc with ⟨c,f,hc0,hr,he⟩ | ⟨hr,i,f,a,c,hi,hc0,herr,_,_⟩ | ⟨hr,pu,gp,qs,nds,hld,he⟩
    ·rcases hr with ⟨h1,rfl,rfl⟩ | ⟨h1,h2,rfl,rfl⟩ | ⟨_,_,h1,_⟩
     ·exact .inl ⟨by omega,he⟩
     ·exact .inr (.inl ⟨by omega,by omega,he⟩)
     ·exact absurd h1 hc0
    ·exfalso
     have hiN:i < k:=by rw [← hl]; exact (List.getElem?_eq_some_iff.1 hi).1
     rw [manyF_get k A B i hiN] at hi
     obtain rfl:=Option.some.inj hi
     exact ee_err hc0 herr
    ·rcases hr with ⟨_,h1,_⟩ | ⟨_,_,h1,_⟩ | ⟨h1,h2,_⟩
     ·omega
     ·omega
     ·exact .inr (.inr ⟨by omega,by omega,pu,gp,qs,nds,hld,he⟩)
   have HCS:=Lib.hid case2
   clear case2 HL HWX a0 b0 b2
   by_cases hbig:1000 < k
   ·obtain ⟨t,ht⟩:=twice_ex ((manyF k A B).map (·.1))
    have HC:=Lib.hid (HCS.out t ht)
    clear ht
    go_wp2_with fail
    refine HC.out.mono ?_
    rintro x w3 ⟨hb3,⟨_,rfl⟩ | ⟨h1,_⟩ | ⟨h1,_⟩⟩
    ·obtain ⟨w4,hw4⟩:∃ w4,w4=w3.alloc (.cells #[.int .i64 5,.int .i64 1000,.int .i64 0] 65):=⟨_,rfl⟩
     have hb4:Below W.heap.size W w4:=by rw [hw4]; exact (HBX.out.trans (hb3.mono HBX.out.size)).alloc (by have:=HBX.out.size; have:=hb3.size; omega) _
     have hbc:=Lib.cell_of_heap (heap_alloc_new w3 (.cells #[.int .i64 5,.int .i64 1000,.int .i64 0] 65))
     rw [← hw4] at hbc
     have c0:w4.cell? ⟨w3.heap.size,0,none⟩=some (.int .i64 5):=hbc 0
     have c1:w4.cell? ⟨w3.heap.size,1,none⟩=some (.int .i64 1000):=hbc 1
     have c2:w4.cell? ⟨w3.heap.size,2,none⟩=some (.int .i64 0):=hbc 2
     have H8:=Lib.hid (HA.out w4 (HK.out.step hb4))
     have HB4:=Lib.hid hb4
     have HW4:=Lib.hid hw4
     clear hb3 hb4 hw4 hbc HC HCS
     go_upto_region 11 with (fail)
     rw [← HW4.out]
     go_wp2_with fail
     refine H8.out.mono ?_
     rintro e w5 ⟨rfl,hb5⟩
     have HB5:=Lib.hid (HB4.out.trans (hb5.mono HB4.out.size))
     clear hb5 H8
     go_wp2_with fail
     go_ret
     exact ⟨rfl,HB5.out⟩
    ·omega
    ·omega
   ·by_cases hAB:A=B
    ·subst hAB
     have HC:=Lib.hid (HCS.out k (manyF_same k A))
     go_wp2_with fail
     refine HC.out.mono ?_
     rintro x w3 ⟨hb3,⟨h1,_⟩ | ⟨_,h1,_⟩ | ⟨_,_,pu,gp,qs,nds,hld,rfl⟩⟩
     ·omega
     ·omega
     ·obtain ⟨w4,hw4⟩:∃ w4,w4=w3.alloc (.cells #[.int .i64 0,.int .i64 0,.int .i64 0] 65):=⟨_,rfl⟩
      have hb34:Below w3.heap.size w3 w4:=by rw [hw4]; exact (Below.refl _ _).alloc (Nat.le_refl _) _
      have hzX:=HBX.out.size
      have hz3:=hb3.size
      have hb4:Below W.heap.size W w4:=(HBX.out.trans (hb3.mono hzX)).trans (hb34.mono (by omega))
      have hbc:=Lib.cell_of_heap (heap_alloc_new w3 (.cells #[.int .i64 0,.int .i64 0,.int .i64 0] 65))
      rw [← hw4] at hbc
      have c0:w4.cell? ⟨w3.heap.size,0,none⟩=some (.int .i64 0):=hbc 0
      have c1:w4.cell? ⟨w3.heap.size,1,none⟩=some (.int .i64 0):=hbc 1
      have c2:w4.cell? ⟨w3.heap.size,2,none⟩=some (.int .i64 0):=hbc 2
      have htot:=hld.qsF.total
      rw [manyF_sum] at htot
      have h0:(allOs qs).length=0:=by omega
      have HOC:=Lib.hid (occs_any w4 pu gp qs (hld.u.step hb34) (fun q hq=>by
       obtain ⟨i,hi,rfl⟩:=List.getElem_of_mem hq
       obtain ⟨nd,hnd⟩:∃ nd,nds[i]?=some nd:=⟨_,List.getElem?_eq_getElem (by rw [hld.lenn]; exact hi)⟩
       exact ((hld.pt i _ nd (List.getElem?_eq_getElem hi) hnd).pv).step hb34) (by omega) (by rw [hld.len,manyF_len]; omega))
      rw [h0] at HOC
      have HB4:=Lib.hid hb4
      have HW4:=Lib.hid hw4
      have hz4:=hb4.size
      clear hb3 hb4 hw4 hbc HC HCS h0 htot hld hb34
      go_upto_region 11 with (fail)
      rw [← HW4.out]
      go_wp2_with fail
      refine HOC.out.mono ?_
      rintro x w5 ⟨v,rfl,hrow,hb5⟩
      obtain ⟨sp,sc,rfl⟩:=own_shape hrow
      have hb6:=HB4.out.trans (hb5.mono hz4)
      have H8:=Lib.hid (HA.out w5 (HK.out.step hb6))
      have HB6:=Lib.hid hb6
      clear hrow hb5 hb6 HOC c0 c1 c2
      go_wp2_with fail
      refine H8.out.mono ?_
      rintro e w7 ⟨rfl,hb7⟩
      have HB7:=Lib.hid (HB6.out.trans (hb7.mono HB6.out.size))
      clear hb7 H8
      go_wp2_with fail
      go_ret
      exact ⟨rfl,HB7.out⟩
    ·obtain ⟨t,ht⟩:∃ t,t=max A B:=⟨_,rfl⟩
     have htw:=manyF_twice k A B hAN hBN hAB
     rw [← ht] at htw
     have HC:=Lib.hid (HCS.out t htw)
     have hab:((A:Int) == (B:Int))=false:=by simpa using fun h=>hAB (by omega)
     have hmx:max (A:Int) (B:Int)=(t:Int):=by omega
     have htk:t < k:=by omega
     have HMX:=Lib.hid hmx
     clear ht hAB htw hmx
     go_wp2_with fail
     refine HC.out.mono ?_
     rintro x w3 ⟨hb3,⟨h1,_⟩ | ⟨_,_,rfl⟩ | ⟨_,h1,_⟩⟩
     ·omega
     ·obtain ⟨w4,hw4⟩:∃ w4,w4=w3.alloc (.cells #[.int .i64 11,.int .i64 t,.int .i64 0] 65):=⟨_,rfl⟩
      have hb4:Below W.heap.size W w4:=by rw [hw4]; exact (HBX.out.trans (hb3.mono HBX.out.size)).alloc (by have:=HBX.out.size; have:=hb3.size; omega) _
      have hbc:=Lib.cell_of_heap (heap_alloc_new w3 (.cells #[.int .i64 11,.int .i64 t,.int .i64 0] 65))
      rw [← hw4] at hbc
      have c0:w4.cell? ⟨w3.heap.size,0,none⟩=some (.int .i64 11):=hbc 0
      have c1:w4.cell? ⟨w3.heap.size,1,none⟩=some (.int .i64 t):=hbc 1
      have c2:w4.cell? ⟨w3.heap.size,2,none⟩=some (.int .i64 0):=hbc 2
      have H8:=Lib.hid (HA.out w4 (HK.out.step hb4))
      have HB4:=Lib.hid hb4
      have HW4:=Lib.hid hw4
      have hmx:=HMX.out
      clear hb3 hb4 hw4 hbc HC HCS
      go_upto_region 11 with (fail)
      rw [← HW4.out]
      go_wp2_with fail
      refine H8.out.mono ?_
      rintro e w5 ⟨rfl,hb5⟩
      have HB5:=Lib.hid (HB4.out.trans (hb5.mono HB4.out.size))
      clear hb5 H8
      go_wp2_with fail
      go_ret
      exact ⟨rfl,HB5.out⟩
     ·omega
end Go.Proofs.YtmpmfamiegpmgaaGreatDoor

namespace Go.Proofs.YtmpmfamiegpmgaaGreatDoor
open Go.RowKit
theorem many_walk (n a b:Int) (w:World) (h1:(Lit.int .i64 n).wf=true) (h2:(Lit.int .i64 a).wf=true) (h3:(Lit.int .i64 b).wf=true) (hk:Kw w) :
  Calls Tryz.prog 13 #[.int .i64 n,.int .i64 a,.int .i64 b] w fun e w'=>e=.returned (.bool true)∧Below w.heap.size w w':=many_any n a b h1 h2 h3 w hk
end Go.Proofs.YtmpmfamiegpmgaaGreatDoor
