/-
  unit.refused: which files make no unit, whatever stands in them.; A unit as it lies, and its looks: all, partOf, Text.; sort.Search, for the closure of unit's At: the first occurrence that ends behind a place.; unit's At: the occurrence in whose bytes a byte stands.
-/
import Derived.Test.YtmpmfamiegpmgaaGreatDoorFA
import Derived.OwnWalk
import Derived.Maps.Ext
import Derived.Maps.OwnSet
import Derived.Maps.OwnOps
import Derived.Deep.MidRow
import Derived.Test.YtmpmfamiegpmgaaGreatDoorFF
import Derived.Test.YtmpmfamiegpmgaaGreatDoorFB
namespace Go.Proofs.YtmpmfamiegpmgaaGreatDoor
open Go.RowKit Go.Maps
set_option maxRecDepth 20000
set_option linter.unusedVariables false
set_option linter.unusedSimpArgs false

abbrev FileV:=ByteArray × ByteArray
/-- A file as it lies: its name and its text. -/
def FAt (w:World) (b o:Nat) (f:FileV):Prop:=w.cell? ⟨b,o,none⟩=some (.string f.1)∧w.cell? ⟨b,o+1,none⟩=some (.string f.2)
/-- Bytes of files. -/
def sumT (l:List FileV):Nat:=(l.map fun f=>f.2.size).sum
theorem sumT_snoc (l:List FileV) (f:FileV):sumT (l++[f])=sumT l+f.2.size:=by simp [sumT]
theorem sumT_take (l:List FileV) (k:Nat) (f:FileV) (h:l[k]?=some f):sumT (l.take (k+1))=sumT (l.take k)+f.2.size:=by
 obtain ⟨hk,e⟩:=List.getElem?_eq_some_iff.1 h
 rw [List.take_succ_eq_append_getElem hk,sumT_snoc,e]
theorem sumT_le (l:List FileV) (k:Nat):sumT (l.take k)≤sumT l:=by
 have h2:sumT (l.take k++l.drop k)=sumT (l.take k)+sumT (l.drop k):=by simp only [sumT,List.map_append,List.sum_append]
 rw [List.take_append_drop] at h2; omega
theorem lawS:Keyed Tryz.prog 9:=string_keyed Tryz.underlying9
def litT (s:ByteArray):Lit:=.string s.data.toList
theorem keyT (s:ByteArray) (h:s.size≤9223372036854775807):keyOf Tryz.prog 9 (.string s)=some (litT s):=Go.WideMaps.keyOf_string_mk Tryz.underlying9 h
theorem litT_inj {a b:ByteArray} (h:litT a=litT b):a=b:=by
 have:=Lit.string.inj h
 rw [← Lib.mk_data a,← Lib.mk_data b,this]
theorem litT_key (s:ByteArray):WideAt.IsKeyLit (litT s):=trivial
/-- A map bears these names. -/
structure Bears (w:World) (mb:Nat) (l:List ByteArray):Prop where
 ex:∃ (D:DataW Unit) (n:Nat),w.ownsMap Tryz.prog 9 (plainElem Tryz.prog 3) mb n D∧n≤l.length∧∀ x:ByteArray,Maps.has D (litT x)=true ↔ x ∈ l
/-- Which files are refused: too many, or two of one name. -/
def RefK (fs:List FileV) (t:Nat) (k f:Int):Prop :=
 (1000 < fs.length∧k=5∧f=1000)∨(fs.length≤1000∧t < fs.length∧k=11∧f=t)∨(fs.length≤1000∧t=fs.length∧k=0∧f=0)
/-- The first name that is there already. -/
structure TwiceAt (l:List ByteArray) (t:Nat):Prop where
 le:t≤l.length
 nd:(l.take t).Nodup
 tw:t < l.length→∃ x,l[t]?=some x∧x ∈ l.take t
def RefPost (w:World) (fs:List FileV) (t:Nat) (e:Ending) (w':World):Prop:=∃ k f,RefK fs t k f∧e=.returned (.agg #[.int .i64 k,.int .i64 f,.int .i64 0])∧Below w.heap.size w w'
theorem gtrans {w w1 w2:World} {r:Option Nat} (h:w.grownBy w1 r) (k:w1.grownBy w2 r):w.grownBy w2 r :=
 ⟨k.os.trans h.os,k.tape.trans h.tape,k.output.trans h.output,Nat.le_trans h.size k.size,fun j hj hr=>(k.block j (Nat.lt_of_lt_of_le hj h.size) hr).trans (h.block j hj hr)⟩
theorem gset {w:World} (b o:Nat) (v:Value):w.grownBy (w.setCell ⟨b,o,none⟩ v) (some b) :=
 ⟨rfl,rfl,rfl,by simp,fun k hk hne=>Below.heap_setCell _ _ _ _ (fun e=>hne (by rw [e]))⟩
theorem gsets (b:Nat):∀ (vs:List Value) (o:Nat) (w:World),w.grownBy (w.setCells b o vs) (some b)
 | [],o,w=>⟨rfl,rfl,rfl,Nat.le_refl _,fun _ _ _=>rfl⟩
 | v :: vs,o,w=>gtrans (gset b o v) (gsets b vs (o+1) _)
theorem zero3 (w:World):(zeroValue 3).run Tryz.prog w=.ok (.int .i64 0) w:=by kernel_rfl
set_option maxHeartbeats 4000000 in
theorem refused_some (fs:List FileV) (t:Nat) (b o n cap:Nat) (w:World) (hat:∀ i f,fs[i]?=some f→FAt w b (o+i * 2) f) (hb:b < w.heap.size) (hn:n=fs.length) (h0:0 < n) (hc:n≤cap) (hlim:n≤100000)
  (hsz:sumT fs≤16777216) (hnm:∀ f ∈ fs,f.1.size≤9223372036854775807) (ht:TwiceAt (fs.map (·.1)) t) :
  Calls Tryz.prog 74 #[.slice (some ⟨b,o,none⟩) n cap] w (RefPost w fs t):=by
 obtain ⟨W1,hW1⟩:∃ W1,W1=w.alloc (.cells #[.int .i64 0,.int .i64 0,.int .i64 0] 65):=⟨_,rfl⟩
 have hb1:Below w.heap.size w W1:=by rw [hW1]; exact (Below.refl _ _).alloc (Nat.le_refl _) _
 have hz1:W1.heap.size=w.heap.size+1:=by rw [hW1]; simp
 have hrx:W1.heap[w.heap.size]?=some (.cells #[.int .i64 0,.int .i64 0,.int .i64 0] 65):=by rw [hW1]; exact heap_alloc_new w _
 have HAT:=Lib.hid hat
 have HB1:=Lib.hid hb1
 have HRX:=Lib.hid hrx
 have HN:=Lib.hid hn
 have HNM:=Lib.hid hnm
 have HT:=Lib.hid ht
 have HW1:=Lib.hid hW1
 clear hat hb1 hrx hnm ht hn
 clear hW1
 have hi65:(Tryz.prog.info? 65).map (·.size)=some 3:=by kernel_rfl
 have HI65:=Lib.hid hi65
 have HEND:Hid (∀ (wr:World) (v0 v1 v2:Value),Below W1.heap.size W1 wr→wr.there w.heap.size 0 3∧Below w.heap.size w (wr.setCells w.heap.size 0 [v0,v1,v2])∧(wr.setCells w.heap.size 0 [v0,v1,v2]).cell? ⟨w.heap.size,0,none⟩=some v0∧(wr.setCells w.heap.size 0 [v0,v1,v2]).cell? ⟨w.heap.size,1,none⟩=some v1∧(wr.setCells w.heap.size 0 [v0,v1,v2]).cell? ⟨w.heap.size,2,none⟩=some v2):=Lib.hid fun wr v0 v1 v2 hbw=>by
  have hbk:=(hbw.block w.heap.size (by omega)).trans HRX.out
  have hth:wr.there w.heap.size 0 3:=fun j hj=>by
   refine ⟨?_,by simp only [World.frozen?]; rw [hbk]; simp⟩
   rw [Lib.cell_of_heap hbk,Array.getElem?_eq_getElem (by simpa using hj)]
   rfl
  have hin:=World.cell?_setCells_in w.heap.size [v0,v1,v2] 0 wr (fun j hj=>(hth j hj).1)
  refine ⟨hth,?_,hin 0 (by show 0 < 3; omega),hin 1 (by show 1 < 3; omega),hin 2 (by show 2 < 3; omega)⟩
  have h8:=HB1.out.trans (hbw.mono (by omega))
  exact h8.grown (gsets w.heap.size [v0,v1,v2] 0 wr) h8.size (fun j hj=>by have:=Option.some.inj hj; omega)
 clear hi65
 have HW1c:Hid (w.alloc (.cells #[.int .i64 0,.int .i64 0,.int .i64 0] 65)=W1):=Lib.hid HW1.out.symm
 by_cases hl:1000 < n
 ·go_enter Tryz.func74,Tryz.ntmps74
  go_wp2_with fail
  exact bodyPost_ret (v:=.agg #[.int .i64 5,.int .i64 1000,.int .i64 0]) (by simp [results,Tryz.results74,go_sem]) rfl ⟨5,1000,.inl ⟨by have:=HN.out; omega,rfl,rfl⟩,rfl,(Below.refl _ _).alloc (Nat.le_refl _) _⟩
 ·go_enter Tryz.func74,Tryz.ntmps74
  go_wp2_with fail
  rw [HW1c.out]
  go_loopw [3,17] (fun v i wr=>∃ k:Nat,k≤n∧i=.int .i64 k∧v=.int .i64 ((16777216:Int) - (sumT (fs.take k):Int))∧Hid (Below W1.heap.size W1 wr)) (fun _ i _=>n - (intOf i).toNat)
  case atStart=>exact ⟨0,by omega,rfl,by simp [sumT],Lib.hid (Below.refl _ _)⟩
  case round =>
   obtain ⟨k,hk,rfl,rfl,HBr⟩:=hrel
   have h9:=sumT_le fs k
   by_cases hlt:k < n
   ·have hkl:k < fs.length:=by have:=HN.out; omega
    obtain ⟨f,hf⟩:∃ f,fs[k]?=some f:=⟨_,List.getElem?_eq_getElem hkl⟩
    obtain ⟨q0,q1⟩:=HAT.out k f hf
    have hbr:=HBr.out
    have hsz1:=hbr.size
    have hbw:Below w.heap.size w wr:=HB1.out.trans (hbr.mono (by omega))
    have p0:=(hbw.cell (p:=⟨b,o+k * 2,none⟩) hb).trans q0
    have p1:=(hbw.cell (p:=⟨b,o+k * 2+1,none⟩) hb).trans q1
    have hst:=sumT_take fs k f hf
    have h10:=sumT_le fs (k+1)
    have hle:sumT (fs.take k)+f.2.size≤16777216:=by omega
    generalize hS:sumT (fs.take k)=S at *
    have HST:=Lib.hid hst
    obtain ⟨nm,tx⟩:=f
    simp only at p0 p1 hle HST
    have HS:=Lib.hid hS
    clear q0 q1 hst h10 hbr hbw hf hS h9 hkl
    go_wp2_with fail
    go_roundw
    case rel=>exact ⟨k+1,by omega,by go_num,by rw [HST.out]; exact congrArg (Value.int .i64) (by omega),Lib.hid (HBr.out.alloc hsz1 _)⟩
    case measure=>simp [intOf]; omega
   ·have hkn:k=n:=by omega
    subst hkn
    obtain ⟨W2,hW2⟩:∃ W2,W2=wr:=⟨_,rfl⟩
    subst hW2
    have hmm:=@run_makeMap Tryz.prog
    have hbr:=HBr.out
    have hsz1:=hbr.size
    have HTL:=Lib.hid (HT.out.le)
    have HN2:Hid ((fs.map (·.1)).length=k):=Lib.hid (by rw [List.length_map]; exact HN.out.symm)
    clear hlt h9 hbr
    go_wp2_with fail
    go_loopw [38] (fun i wr=>∃ j:Nat,j≤k∧j≤t∧i=.int .i64 j∧Hid (Below W1.heap.size W1 wr)∧Hid (Bears wr W2.heap.size ((fs.map (·.1)).take j))) (fun i _=>k - (intOf i).toNat)
    case atStart=>exact ⟨0,by omega,by omega,rfl,Lib.hid (HBr.out.alloc hsz1 _),Lib.hid ⟨_,0,World.ownsMap_made _ _ _ _,by simp,fun x=>by simp [Maps.has]⟩⟩
    case round =>
     obtain ⟨j,hj,hjt,rfl,HBs,HBe⟩:=hrel
     have hbs:=HBs.out
     have hsz2:=hbs.size
     have hbw:Below w.heap.size w wr:=HB1.out.trans (hbs.mono (by omega))
     by_cases hlt:j < k
     ·have hkl:j < fs.length:=by have:=HN.out; omega
      obtain ⟨f,hf⟩:∃ f,fs[j]?=some f:=⟨_,List.getElem?_eq_getElem hkl⟩
      obtain ⟨q0,q1⟩:=HAT.out j f hf
      have p0:=(hbw.cell (p:=⟨b,o+j * 2,none⟩) hb).trans q0
      have p1:=(hbw.cell (p:=⟨b,o+j * 2+1,none⟩) hb).trans q1
      obtain ⟨nm,tx⟩:=f
      simp only at p0 p1
      have hnl:(fs.map (·.1))[j]?=some nm:=by rw [List.getElem?_map,hf]; rfl
      have hkey:=keyT nm (HNM.out (nm,tx) (List.mem_of_getElem? hf))
      obtain ⟨D,m,hown,hmn,hhas⟩:=HBe.out.ex
      have hmn2:m≤100000:=by rw [List.length_take] at hmn; omega
      by_cases hjt2:j=t
      ·have hh:Maps.has D (litT nm)=true:=by
        rw [hhas,hjt2]
        obtain ⟨x,h1,h2⟩:=HT.out.tw (by have:=HN2.out; omega)
        rw [← hjt2,hnl] at h1
        rw [Option.some.inj h1]; exact h2
       have HJT:=Lib.hid hjt2
       obtain ⟨e1,e2,e3,e4,e5⟩:=HEND.out (wr.alloc (.cells #[.string nm,.string tx] 76)) (.int .i64 11) (.int .i64 j) (.int .i64 0) (HBs.out.alloc hsz2 _)
       have HTH:=Lib.hid e1
       have HB5:=Lib.hid e2
       obtain ⟨WX,hWX⟩:∃ WX,WX=(wr.alloc (.cells #[.string nm,.string tx] 76)).setCells w.heap.size 0 [.int .i64 11,.int .i64 j,.int .i64 0]:=⟨_,rfl⟩
       rw [← hWX] at e3 e4 e5 HB5
       have HWX:=Lib.hid hWX
       have hown2:=hown.alloc (.cells #[.string nm,.string tx] 76)
       clear q0 q1 hf hnl hjt2 hhas hbs hbw e1 e2 hWX hmn hown
       go_wp2_with (first
        | (at_lookup; refine wpList_lookup_own_ok_int _ rfl _ _ 190 rfl 9 3 .i64 lawS Tryz.underlying190 Tryz.underlying3 (zero3 _) W2.heap.size m D rfl hown2 _ _ rfl hkey ?_; intro c hat9 hwc; clear hat9 hwc)
        | (refine wpList_store_mid rfl 65 (.tmp 2) (.tmp 52) rfl w.heap.size 0 #[.int .i64 11,.int .i64 j,.int .i64 0] rfl rfl HTH.out HI65.out (by simp [Value.oneCell']) ?_; show wpList _ _ _ _ _ ((wr.alloc (.cells #[.string nm,.string tx] 76)).setCells w.heap.size 0 [.int .i64 11,.int .i64 j,.int .i64 0]); rw [← HWX.out])
        | go_in)
       refine bodyPost_ret (v:=.agg #[.int .i64 11,.int .i64 j,.int .i64 0]) (by simp [results,Tryz.results74,go_sem,e3,e4,e5,Result.andThen]; try rfl) rfl ?_
       exact ⟨11,j,.inr (.inl ⟨by have:=HN.out; omega,by have:=HN.out; have:=HJT.out; omega,rfl,by rw [HJT.out]⟩),rfl,HB5.out⟩
      ·have hh:Maps.has D (litT nm)=false:=by
        refine Bool.eq_false_iff.2 fun h=>?_
        rw [hhas] at h
        have h1:=HT.out.nd
        have hjt3:j+1≤t:=by omega
        have h2:((fs.map (·.1)).take (j+1)).Nodup:=by
         have:((fs.map (·.1)).take (j+1))=((fs.map (·.1)).take t).take (j+1):=by rw [List.take_take]; congr 1; omega
         rw [this]; exact h1.sublist (List.take_sublist _ _)
        obtain ⟨hk9,e9⟩:=List.getElem?_eq_some_iff.1 hnl
        rw [List.take_succ_eq_append_getElem hk9,e9,List.nodup_append] at h2
        exact h2.2.2 _ h _ (by simp) rfl
       have hown2:=hown.alloc (.cells #[.string nm,.string tx] 76)
       have HNL:=Lib.hid hnl
       have HHAS:=Lib.hid hhas
       have HMN:=Lib.hid hmn
       have htd:=hown.tidy lawS
       have HTD:=Lib.hid htd
       have hal:Below W1.heap.size W1 (wr.alloc (.cells #[.string nm,.string tx] 76)):=HBs.out.alloc hsz2 _
       have HAL:=Lib.hid hal
       have hmb:W1.heap.size≤W2.heap.size:=hsz1
       clear q0 q1 hf hnl hhas hbs hbw hown hmn htd hal
       go_wp2_with (first
        | (at_lookup; refine wpList_lookup_own_ok_int _ rfl _ _ 190 rfl 9 3 .i64 lawS Tryz.underlying190 Tryz.underlying3 (zero3 _) W2.heap.size m D rfl hown2 _ _ rfl hkey ?_; intro c hat9 hwc; clear hat9 hwc)
        | (at_mapUpdate; refine wpList_mapUpdate_own _ rfl _ _ _ 190 rfl 9 3 lawS Tryz.underlying190 _ W2.heap.size m _ rfl hown2 (by unfold maxLen; omega) _ _ _ rfl rfl hkey _ [] (plainElem_int Tryz.underlying3 (WalkArith.wf_i64 (by omega))) ?_; intro w5 hown5 hgrow5)
        | go_in)
       have HO5:=Lib.hid hown5
       have HG5:=Lib.hid hgrow5
       clear hown5 hgrow5 hown2
       go_roundw
       case rel =>
        refine ⟨j+1,by omega,by omega,by go_num,Lib.hid (HAL.out.grown HG5.out HAL.out.size (fun i hi=>by cases hi; exact hmb)),Lib.hid ⟨_,m+1,HO5.out,?_,fun x=>?_⟩⟩
        ·have:=HMN.out
         have:=HN2.out
         rw [List.length_take] at *; omega
        ·obtain ⟨hk9,e9⟩:=List.getElem?_eq_some_iff.1 HNL.out
         rw [List.take_succ_eq_append_getElem hk9,e9,List.mem_append,List.mem_singleton]
         by_cases hx:x=nm
         ·subst hx
          rw [has_put_same HTD.out.isMap (litT_key _)]; simp
         ·rw [has_put_other (fun e=>hx (litT_inj e)),HHAS.out]; simp [hx]
       case measure=>simp [intOf]; omega
     ·have hjk:j=k:=by omega
      obtain ⟨e1,e2,e3,e4,e5⟩:=HEND.out wr (.int .i64 0) (.int .i64 0) (.int .i64 0) HBs.out
      have HTH:=Lib.hid e1
      have HB5:=Lib.hid e2
      obtain ⟨WX,hWX⟩:∃ WX,WX=wr.setCells w.heap.size 0 [.int .i64 0,.int .i64 0,.int .i64 0]:=⟨_,rfl⟩
      rw [← hWX] at e3 e4 e5 HB5
      have HWX:=Lib.hid hWX
      subst hjk
      clear e1 e2 hWX hbs hbw HBe
      go_wp2_with (first
       | (refine wpList_store_mid rfl 65 (.tmp 2) (.tmp 58) rfl w.heap.size 0 #[.int .i64 0,.int .i64 0,.int .i64 0] rfl rfl HTH.out HI65.out (by simp [Value.oneCell']) ?_; show wpList _ _ _ _ _ (wr.setCells w.heap.size 0 [.int .i64 0,.int .i64 0,.int .i64 0]); rw [← HWX.out])
       | go_in)
      refine bodyPost_ret (v:=.agg #[.int .i64 0,.int .i64 0,.int .i64 0]) (by simp [results,Tryz.results74,go_sem,e3,e4,e5,Result.andThen]; try rfl) rfl ?_
      exact ⟨0,0,.inr (.inr ⟨by have:=HN.out; omega,by have:=HTL.out; rw [HN2.out] at this; have:=HN.out; omega,rfl,rfl⟩),rfl,HB5.out⟩
set_option maxHeartbeats 4000000 in
theorem refused_nil (p:Option Addr) (cap:Nat) (w:World):Calls Tryz.prog 74 #[.slice p 0 cap] w (RefPost w [] 0):=by
 have hmm:=@run_makeMap Tryz.prog
 go_enter Tryz.func74,Tryz.ntmps74
 go_wp2_with fail
 refine wp_loop_rounds 1 ?_
 rw [rounds_succ]
 go_wp2_with fail
 refine wp_loop_rounds 1 ?_
 rw [rounds_succ]
 go_wp2_with fail
 have hc:∀ j:Nat,j < 3→((w.alloc (.cells #[.int .i64 0,.int .i64 0,.int .i64 0] 65)).alloc (.map #[] 0)).cell? ⟨w.heap.size,j,none⟩=some (.int .i64 0):=fun j hj=>by
  rw [((Below.refl (w.alloc (.cells #[.int .i64 0,.int .i64 0,.int .i64 0] 65)).heap.size _).alloc (Nat.le_refl _) _).cell (p:=⟨w.heap.size,j,none⟩) (by show w.heap.size < _; simp)]
  rw [Lib.cell_of_heap (heap_alloc_new w _)]
  match j,hj with
  | 0,_=>rfl
  | 1,_=>rfl
  | 2,_=>rfl
 have c0:=hc 0 (by omega)
 have c1:=hc 1 (by omega)
 have c2:=hc 2 (by omega)
 refine bodyPost_ret (v:=.agg #[.int .i64 0,.int .i64 0,.int .i64 0]) (by simp [results,Tryz.results74,go_sem,c0,c1,c2,Result.andThen]; try rfl) rfl ?_
 exact ⟨0,0,.inr (.inr ⟨by simp,rfl,rfl,rfl⟩),rfl,((Below.refl _ _).alloc (Nat.le_refl _) _).alloc (by simp) _⟩
/-- Files as they are handed in. -/
def FIn (w:World) (p:Option Addr) (n cap:Nat) (fs:List FileV):Prop:=n=fs.length∧(n=0∨∃ b o,p=some ⟨b,o,none⟩∧n≤cap∧b < w.heap.size∧∀ i f,fs[i]?=some f→FAt w b (o+i * 2) f)
theorem refused_any (fs:List FileV) (t:Nat) (p:Option Addr) (n cap:Nat) (w:World) (h:FIn w p n cap fs) (hlim:n≤100000)
  (hsz:sumT fs≤16777216) (hnm:∀ f ∈ fs,f.1.size≤9223372036854775807) (ht:TwiceAt (fs.map (·.1)) t) :
  Calls Tryz.prog 74 #[.slice p n cap] w (RefPost w fs t):=by
 obtain ⟨hn,h0 | ⟨b,o,rfl,hc,hb,hat⟩⟩:=h
 ·subst h0
  obtain rfl:fs=[]:=List.eq_nil_of_length_eq_zero hn.symm
  obtain rfl:t=0:=by have:=ht.le; simpa using this
  exact refused_nil p cap w
 ·rcases Nat.eq_zero_or_pos n with h0 | h0
  ·subst h0
   obtain rfl:fs=[]:=List.eq_nil_of_length_eq_zero hn.symm
   obtain rfl:t=0:=by have:=ht.le; simpa using this
   exact refused_nil _ cap w
  ·exact refused_some fs t b o n cap w hat hb hn h0 hc hlim hsz hnm ht
end Go.Proofs.YtmpmfamiegpmgaaGreatDoor

namespace Go.Proofs.YtmpmfamiegpmgaaGreatDoor
open Go.RowKit
set_option maxRecDepth 20000
set_option linter.unusedVariables false
set_option linter.unusedSimpArgs false

/-- A part of a unit: its file, its node, its first number, and where its occurrences lie. -/
structure PC where
 f:FileV
 h:Hd
 first:Int
 oa:Nat
 m:Nat
def PC.cells (p:PC):List Value:=[.string p.f.1,.string p.f.2,.int .i64 p.h.k,.int .i64 p.h.m,.int .i64 p.h.f,.int .i64 p.h.t,.slice p.h.np p.h.nn p.h.nc,.slice p.h.kp p.h.kn p.h.kc,.int .i64 p.first,.slice (some ⟨p.oa,0,none⟩) p.m p.m]
structure PCAt (W:World) (b o:Nat) (p:PC):Prop where
 c0:W.cell? ⟨b,o,none⟩=some (.string p.f.1)
 c1:W.cell? ⟨b,o+1,none⟩=some (.string p.f.2)
 c2:W.cell? ⟨b,o+2,none⟩=some (.int .i64 p.h.k)
 c3:W.cell? ⟨b,o+3,none⟩=some (.int .i64 p.h.m)
 c4:W.cell? ⟨b,o+4,none⟩=some (.int .i64 p.h.f)
 c5:W.cell? ⟨b,o+5,none⟩=some (.int .i64 p.h.t)
 c6:W.cell? ⟨b,o+6,none⟩=some (.slice p.h.np p.h.nn p.h.nc)
 c7:W.cell? ⟨b,o+7,none⟩=some (.slice p.h.kp p.h.kn p.h.kc)
 c8:W.cell? ⟨b,o+8,none⟩=some (.int .i64 p.first)
 c9:W.cell? ⟨b,o+9,none⟩=some (.slice (some ⟨p.oa,0,none⟩) p.m p.m)
theorem PCAt.ext {W W':World} {b o:Nat} {p:PC} (h:PCAt W b o p) (he:∀ j,j < 10→W'.cell? ⟨b,o+j,none⟩=W.cell? ⟨b,o+j,none⟩):PCAt W' b o p :=
 ⟨(he 0 (by omega)).trans h.c0,(he 1 (by omega)).trans h.c1,(he 2 (by omega)).trans h.c2,(he 3 (by omega)).trans h.c3,(he 4 (by omega)).trans h.c4,(he 5 (by omega)).trans h.c5,(he 6 (by omega)).trans h.c6,(he 7 (by omega)).trans h.c7,(he 8 (by omega)).trans h.c8,(he 9 (by omega)).trans h.c9⟩
abbrev PC.val (p:PC):Value:=.agg #[.string p.f.1,.string p.f.2,.int .i64 p.h.k,.int .i64 p.h.m,.int .i64 p.h.f,.int .i64 p.h.t,.slice p.h.np p.h.nn p.h.nc,.slice p.h.kp p.h.kn p.h.kc,.int .i64 p.first,.slice (some ⟨p.oa,0,none⟩) p.m p.m]
/-- A unit as it lies. -/
structure UAt (W:World) (pu gp:Nat) (ps:List PC):Prop where
 u:W.cell? ⟨pu,0,none⟩=some (.slice (some ⟨gp,0,none⟩) ps.length ps.length)
 pl:pu < W.heap.size
 gl:gp < W.heap.size
 part:∀ i p,ps[i]?=some p→PCAt W gp (i * 10) p
theorem UAt.step {W W':World} {pu gp:Nat} {ps:List PC} (h:UAt W pu gp ps) (hb:Below W.heap.size W W'):UAt W' pu gp ps :=
 ⟨(hb.cell (p:=⟨pu,0,none⟩) h.pl).trans h.u,Nat.lt_of_lt_of_le h.pl hb.size,Nat.lt_of_lt_of_le h.gl hb.size,fun i p hp=>(h.part i p hp).ext fun j _=>hb.cell (p:=⟨gp,_,none⟩) h.gl⟩
theorem all_nil (W:World):Calls Tryz.prog 78 #[.pointer none] W fun e W'=>e=.returned (.slice none 0 0)∧W=W':=by
 go_enter Tryz.func78,Tryz.ntmps78
 go_wp2
 go_ret
 exact ⟨rfl,rfl⟩
theorem all_some (W:World) (pu:Nat) (v:Value) (h:W.cell? ⟨pu,0,none⟩=some v):Calls Tryz.prog 78 #[.pointer (some ⟨pu,0,none⟩)] W fun e W'=>e=.returned v∧W=W':=by
 go_enter Tryz.func78,Tryz.ntmps78
 go_wp2
 go_ret
 exact ⟨rfl,rfl⟩
abbrev zeroP:Value:=.agg #[.string ⟨#[]⟩,.string ⟨#[]⟩,.int .i64 0,.int .i64 0,.int .i64 0,.int .i64 0,.slice none 0 0,.slice none 0 0,.int .i64 0,.slice none 0 0]
set_option maxHeartbeats 4000000 in
theorem partOf_nil (W:World) (i:Int):Calls Tryz.prog 75 #[.pointer none,.int .i64 i] W fun e W'=>e=.returned (.tuple #[zeroP,.bool false])∧Below W.heap.size W W':=by
 have HA:=Lib.hid (all_nil)
 by_cases hi:i < 0
 ·go_enter Tryz.func75,Tryz.ntmps75
  go_wp2_with fail
  refine (HA.out _).mono ?_
  rintro e w1 ⟨rfl,rfl⟩
  go_wp2_with fail
  refine bodyPost_ret (v:=.tuple #[zeroP,.bool false]) (by simp [results,Tryz.results75,go_sem]) rfl ⟨rfl,(Below.refl _ _).alloc (Nat.le_refl _) _⟩
 ·have h2:(0:Int)≤i:=by omega
  go_enter Tryz.func75,Tryz.ntmps75
  go_wp2_with fail
  refine (HA.out _).mono ?_
  rintro e w1 ⟨rfl,rfl⟩
  go_wp2_with fail
  refine bodyPost_ret (v:=.tuple #[zeroP,.bool false]) (by simp [results,Tryz.results75,go_sem]) rfl ⟨rfl,(Below.refl _ _).alloc (Nat.le_refl _) _⟩
set_option maxHeartbeats 4000000 in
theorem partOf_in (W:World) (pu gp:Nat) (ps:List PC) (i:Nat) (p:PC) (hu:UAt W pu gp ps) (hi:ps[i]?=some p) :
  Calls Tryz.prog 75 #[.pointer (some ⟨pu,0,none⟩),.int .i64 i] W fun e W'=>e=.returned (.tuple #[p.val,.bool true])∧Below W.heap.size W W':=by
 have hb:=((Below.refl W.heap.size W).alloc (Nat.le_refl _) (.cells #[.string ⟨#[]⟩,.string ⟨#[]⟩,.int .i64 0,.int .i64 0,.int .i64 0,.int .i64 0,.slice none 0 0,.slice none 0 0,.int .i64 0,.slice none 0 0] 132))
 have hu1:=hu.step hb
 have hu2:=hu1.u
 obtain ⟨p0,p1,p2,p3,p4,p5,p6,p7,p8,p9⟩:=hu1.part i p hi
 have hlt:=(List.getElem?_eq_some_iff.1 hi).1
 have HA:=Lib.hid (all_some _ _ _ hu2)
 have h1:(0:Int)≤(i:Int):=by omega
 have h2:(i:Int) < (ps.length:Int):=by omega
 have h3:¬ (ps.length:Int)≤(i:Int):=by omega
 clear hu hu1 hu2 hi hb hlt
 generalize ps.length=n at *
 go_enter Tryz.func75,Tryz.ntmps75
 go_wp2_with fail
 refine HA.out.mono ?_
 rintro e w1 ⟨rfl,rfl⟩
 go_wp2_with fail
 refine bodyPost_ret (v:=.tuple #[p.val,.bool true]) (by simp [results,Tryz.results75,go_sem]) rfl ⟨rfl,(Below.refl _ _).alloc (Nat.le_refl _) _⟩
set_option maxHeartbeats 4000000 in
theorem text_nil (W:World) (i:Int):Calls Tryz.prog 43 #[.pointer none,.int .i64 i] W fun e W'=>e=.returned (.tuple #[.string ⟨#[]⟩,.bool false])∧Below W.heap.size W W':=by
 have HA:=Lib.hid (partOf_nil W i)
 go_enter Tryz.func43,Tryz.ntmps43
 go_wp2_with fail
 refine HA.out.mono ?_
 rintro e w1 ⟨rfl,hb⟩
 go_wp2_with fail
 go_returns
 exact ⟨rfl,hb.alloc hb.size _⟩
set_option maxHeartbeats 4000000 in
theorem at_nil (W:World) (i x:Int):Calls Tryz.prog 41 #[.pointer none,.int .i64 i,.int .i64 x] W fun e W'=>e=.returned (.tuple #[.int .i64 0,.bool false])∧Below W.heap.size W W':=by
 have HA:=Lib.hid (partOf_nil (W.alloc (.cells #[.int .i64 x] 3)) i)
 go_enter Tryz.func41,Tryz.ntmps41
 go_wp2_with fail
 refine HA.out.mono ?_
 rintro e w1 ⟨rfl,hb⟩
 have h1:Below W.heap.size W w1:=((Below.refl W.heap.size W).alloc (Nat.le_refl _) _).trans (hb.mono (by simp))
 have H1:=Lib.hid h1
 have hsz:=h1.size
 clear hb h1
 go_wp2_with fail
 go_returns
 exact ⟨rfl,H1.out.alloc hsz _⟩
end Go.Proofs.YtmpmfamiegpmgaaGreatDoor

namespace Go.Proofs.YtmpmfamiegpmgaaGreatDoor
open Go.RowKit
set_option maxRecDepth 20000
set_option linter.unusedVariables false
set_option linter.unusedSimpArgs false

set_option maxHeartbeats 4000000 in
theorem atFn_any (W:World) (ba bp oa m i:Nat) (at_ e:Int) (h1:W.cell? ⟨ba,0,none⟩=some (.int .i64 at_)) (h2:W.cell? ⟨bp,9,none⟩=some (.slice (some ⟨oa,0,none⟩) m m)) (hi:i < m) (h3:W.cell? ⟨oa,i * 5+2,none⟩=some (.int .i64 e)) :
  Calls Tryz.prog 77 #[.int .i64 i,.pointer (some ⟨ba,0,none⟩),.pointer (some ⟨bp,0,none⟩)] W fun x W'=>x=.returned (.bool (decide (at_ < e)))∧∃ d,W'=W.drewN d:=by
 have r1:(0:Int)≤(i:Int):=by omega
 have r2:(i:Int) < (m:Int):=by omega
 go_enter Tryz.func77,Tryz.ntmps77
 go_wp2_with fail
 go_quiet (fail)
 go_wp2_with fail
 go_ret
 exact ⟨rfl,_,rfl⟩
/-- The first of m numbers that is above x, where they rise. -/
structure FirstGt (m:Nat) (e:Nat→Int) (x:Int) (k:Nat):Prop where
 le:k≤m
 lo:∀ i,i < k→¬ x < e i
 hi:∀ i,k≤i→i < m→x < e i
set_option maxHeartbeats 4000000 in
theorem search_any (W:World) (ba bp oa m:Nat) (at_:Int) (e:Nat→Int) (k:Nat) (hm:m≤100000000) (h1:W.cell? ⟨ba,0,none⟩=some (.int .i64 at_)) (h2:W.cell? ⟨bp,9,none⟩=some (.slice (some ⟨oa,0,none⟩) m m))
  (h3:∀ i,i < m→W.cell? ⟨oa,i * 5+2,none⟩=some (.int .i64 (e i))) (hk:FirstGt m e at_ k) :
  Calls Tryz.prog 76 #[.int .i64 m,.func (.func 77) #[] #[.pointer (some ⟨ba,0,none⟩),.pointer (some ⟨bp,0,none⟩)]] W fun x W'=>x=.returned (.int .i64 k)∧∃ d,W'=W.drewN d:=by
 have hcf:∀ args W,Sem.run Tryz.prog (callFunc 77 args) W=.ok (.enter 77 args) W:=fun args W=>cf_enter Tryz.func77 (by kernel_rfl) (by kernel_rfl) args W
 have HA:Hid (∀ i d,i < m→Calls Tryz.prog 77 #[.int .i64 i,.pointer (some ⟨ba,0,none⟩),.pointer (some ⟨bp,0,none⟩)] (W.drewN d) fun x W'=>x=.returned (.bool (decide (at_ < e i)))∧∃ d,W'=W.drewN d):=Lib.hid fun i d hi=>by
  refine (atFn_any (W.drewN d) ba bp oa m i at_ (e i) h1 h2 hi (h3 i hi)).mono ?_
  rintro x W' ⟨hx,d',hw⟩
  exact ⟨hx,d+d',by rw [hw,World.drewN_drewN]⟩
 have HK:=Lib.hid hk
 have hkm:=hk.le
 clear h1 h2 h3 hk
 go_enter Tryz.func76,Tryz.ntmps76
 go_wp2_with fail
 go_loopw [5,6] (fun i j wr=>∃ a b d:Nat,a≤k∧k≤b∧b≤m∧i=.int .i64 a∧j=.int .i64 b∧wr=W.drewN d) (fun i j _=>((intOf j).toNat - (intOf i).toNat))
 case atStart=>exact ⟨0,m,0,by omega,hkm,by omega,rfl,rfl,rfl⟩
 case round =>
  obtain ⟨a,b,d,ha,hb,hbm,rfl,rfl,rfl⟩:=hrel
  by_cases hlt:a < b
  ·obtain ⟨c,hc⟩:∃ c,c=(a+b) / 2:=⟨_,rfl⟩
   have hmid:((a:Int)+b) / 2=((c:Nat):Int):=by omega
   have hca:a≤c:=by omega
   have hcb:c < b:=by omega
   have HC:=Lib.hid (HA.out c d (by omega))
   have hcase:(k≤c→at_ < e c)∧(¬ k≤c→¬ at_ < e c):=⟨fun h=>HK.out.hi c h (by omega),fun h=>HK.out.lo c (by omega)⟩
   have HCS:=Lib.hid hcase
   clear hc hcase
   by_cases hkc:k≤c
   ·have ht:decide (at_ < e c)=true:=by simpa using HCS.out.1 hkc
    rw [ht] at HC
    clear ht
    go_wp2_with fail
    refine HC.out.mono ?_
    rintro x w2 ⟨rfl,d2,rfl⟩
    go_wp2_with fail
    go_roundw
    case rel=>exact ⟨a,c,d2,ha,hkc,by omega,rfl,rfl,rfl⟩
    case measure=>simp [intOf]; omega
   ·have ht:decide (at_ < e c)=false:=by simpa using HCS.out.2 hkc
    rw [ht] at HC
    clear ht
    go_wp2_with fail
    refine HC.out.mono ?_
    rintro x w2 ⟨rfl,d2,rfl⟩
    go_wp2_with fail
    go_roundw
    case rel=>exact ⟨c+1,b,d2,by omega,hb,hbm,by go_num,rfl,rfl⟩
    case measure=>simp [intOf]; omega
  ·have hab:a=k:=by omega
   subst hab
   go_wp2_with fail
   go_ret
   exact ⟨rfl,d,rfl⟩
end Go.Proofs.YtmpmfamiegpmgaaGreatDoor

namespace Go.Proofs.YtmpmfamiegpmgaaGreatDoor
open Go.RowKit
set_option maxRecDepth 20000
set_option linter.unusedVariables false
set_option linter.unusedSimpArgs false

/-- What At answers, of a part's occurrences: the first one that ends behind the place, if it begins at it or ahead. -/
def AtR (p:PC) (a e:Nat→Int) (x:Int) (k:Nat) (r:Int) (b:Bool):Prop:=(k < p.m∧a k≤x∧r=p.first+(k:Int)∧b=true)∨(¬ (k < p.m∧a k≤x)∧r=0∧b=false)
set_option maxHeartbeats 4000000 in
theorem at_in (W:World) (pu gp:Nat) (ps:List PC) (i:Nat) (p:PC) (x:Int) (a e:Nat→Int) (k:Nat) (hu:UAt W pu gp ps) (hi:ps[i]?=some p) (hm:p.m≤100000000) (hf:0≤p.first∧p.first≤100000000) (hol:p.oa < W.heap.size)
  (ho:∀ j,j < p.m→W.cell? ⟨p.oa,j * 5+1,none⟩=some (.int .i64 (a j))∧W.cell? ⟨p.oa,j * 5+2,none⟩=some (.int .i64 (e j))) (hk:FirstGt p.m e x k) :
  Calls Tryz.prog 41 #[.pointer (some ⟨pu,0,none⟩),.int .i64 i,.int .i64 x] W fun y W'=>(∃ r b,AtR p a e x k r b∧y=.returned (.tuple #[.int .i64 r,.bool b]))∧Below W.heap.size W W':=by
 have hb1:Below W.heap.size W (W.alloc (.cells #[.int .i64 x] 3)):=(Below.refl W.heap.size W).alloc (Nat.le_refl _) _
 have HA:=Lib.hid (partOf_in _ pu gp ps i p (hu.step hb1) hi)
 have hx:(W.alloc (.cells #[.int .i64 x] 3)).cell? ⟨W.heap.size,0,none⟩=some (.int .i64 x):=by rw [Lib.cell_of_heap (heap_alloc_new W _)]; rfl
 have HX:=Lib.hid hx
 have HB1:=Lib.hid hb1
 have HO:=Lib.hid ho
 have HK:=Lib.hid hk
 have hkm:=hk.le
 clear hu hi hb1 hx ho hk
 obtain ⟨⟨nm,tx⟩,⟨hk0,hm0,hf0,ht0,np,nn,nc,ns,kp,kn,kc⟩,first,oa,m⟩:=p
 simp only [PC.val] at *
 go_enter Tryz.func41,Tryz.ntmps41
 go_wp2_with fail
 refine HA.out.mono ?_
 rintro y w2 ⟨rfl,hb⟩
 have hz:=hb.size
 have hbx:=HB1.out.trans (hb.mono (by simp))
 obtain ⟨w3,hw3⟩:∃ w3,w3=w2.alloc (.cells #[.string nm,.string tx,.int .i64 hk0,.int .i64 hm0,.int .i64 hf0,.int .i64 ht0,.slice np nn nc,.slice kp kn kc,.int .i64 first,.slice (some ⟨oa,0,none⟩) m m] 132):=⟨_,rfl⟩
 have hzz:W.heap.size < w2.heap.size:=by simp at hz; omega
 have hb3:Below W.heap.size W w3:=by rw [hw3]; exact hbx.alloc (by omega) _
 have x3:w3.cell? ⟨W.heap.size,0,none⟩=some (.int .i64 x):=by
  rw [hw3,((Below.refl w2.heap.size w2).alloc (Nat.le_refl _) _).cell (p:=⟨W.heap.size,0,none⟩) hzz,hb.cell (p:=⟨W.heap.size,0,none⟩) (by simp)]
  exact HX.out
 have p8:w3.cell? ⟨w2.heap.size,8,none⟩=some (.int .i64 first):=by rw [hw3,Lib.cell_of_heap (heap_alloc_new w2 _)]; rfl
 have p9:w3.cell? ⟨w2.heap.size,9,none⟩=some (.slice (some ⟨oa,0,none⟩) m m):=by rw [hw3,Lib.cell_of_heap (heap_alloc_new w2 _)]; rfl
 have HS:=Lib.hid (search_any w3 W.heap.size w2.heap.size oa m x e k hm x3 p9 (fun j hj=>(hb3.cell (p:=⟨oa,_,none⟩) hol).trans (HO.out j hj).2) HK.out)
 have HO3:Hid (∀ j,j < m→w3.cell? ⟨oa,j * 5+1,none⟩=some (.int .i64 (a j))):=Lib.hid fun j hj=>(hb3.cell (p:=⟨oa,_,none⟩) hol).trans (HO.out j hj).1
 have HB3:=Lib.hid hb3
 have HW3:=Lib.hid hw3
 clear hb hbx hb3 hw3
 go_wp2_with fail
 rw [← HW3.out]
 go_wp2_with fail
 refine HS.out.mono ?_
 rintro y w4 ⟨rfl,d,rfl⟩
 have HBD:Hid (Below W.heap.size W (w3.drewN d)):=Lib.hid (below_drewN HB3.out d)
 by_cases hkm2:k=m
 ·subst hkm2
  clear HS HA
  go_wp2_with fail
  go_quiet (fail)
  go_wp2_with fail
  go_returns
  exact ⟨⟨0,false,.inr ⟨fun h=>absurd h.1 (Nat.lt_irrefl _),rfl,rfl⟩,rfl⟩,by first | exact below_drewN HB3.out _ | exact below_drewN HBD.out _⟩
 ·have hlt:k < m:=by omega
  have t1:((k:Int) == (m:Int))=false:=by simp; omega
  have r1:(0:Int)≤(k:Int):=by omega
  have r2:(k:Int) < (m:Int):=by omega
  have qa:=HO3.out k hlt
  have HAK:Hid (AtR ⟨(nm,tx),⟨hk0,hm0,hf0,ht0,np,nn,nc,ns,kp,kn,kc⟩,first,oa,m⟩ a e x k (bif decide (x < a k) then 0 else first+k) (!decide (x < a k))):=Lib.hid (by
   cases h:decide (x < a k)
   ·exact .inl ⟨hlt,by simpa using h,rfl,rfl⟩
   ·exact .inr ⟨fun h2=>by have:=h2.2; simp at h; omega,rfl,rfl⟩)
  generalize a k=ak at *
  clear HS HA hkm2
  cases hax:decide (x < ak)
  ·rw [hax] at HAK
   have hxx:¬ x < ak:=by simpa using hax
   clear hax
   go_wp2_with fail
   go_quiet (fail)
   go_wp2_with fail
   go_returns
   exact ⟨⟨_,_,HAK.out,rfl⟩,by first | exact below_drewN HB3.out _ | exact below_drewN HBD.out _⟩
  ·rw [hax] at HAK
   have hxx:x < ak:=by simpa using hax
   clear hax
   go_wp2_with fail
   go_quiet (fail)
   go_wp2_with fail
   go_returns
   exact ⟨⟨_,_,HAK.out,rfl⟩,by first | exact below_drewN HB3.out _ | exact below_drewN HBD.out _⟩
end Go.Proofs.YtmpmfamiegpmgaaGreatDoor
