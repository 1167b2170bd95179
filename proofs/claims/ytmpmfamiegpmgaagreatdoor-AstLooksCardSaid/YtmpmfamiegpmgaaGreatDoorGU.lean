/-
  each over nodes: a node and all below it are handed on, each ahead of its kids, for any function that takes them.; each over the nodes of a tree that stays as it is; how many nodes there are.; Declared: the occurrences of a node, and of all below it, that declare.; Declared whole, where something is declared.
-/
import Derived.Test.YtmpmfamiegpmgaaGreatDoorGF
import Derived.Test.YtmpmfamiegpmgaaGreatDoorGT
import Derived.Test.YtmpmfamiegpmgaaGreatDoorGV
import Derived.Sort.OwnSortedInts
namespace Go.Proofs.YtmpmfamiegpmgaaGreatDoor
open Tryz
open Go.Lib (cell_of_heap compact hid)
open Go.RowKit
set_option maxRecDepth 20000
set_option linter.unusedVariables false
set_option linter.unusedSimpArgs false
theorem ZH (args:Array Value) (w:World):Sem.run prog (callFunc 97 args) w=.ok (.enter 97 args) w:=aV func97 (by kernel_rfl) (by kernel_rfl) args w
theorem ZA (args:Array Value) (w:World):Sem.run prog (callFunc 98 args) w=.ok (.enter 98 args) w:=aV func98 (by kernel_rfl) (by kernel_rfl) args w
theorem zF (b o:Nat) (h:Hd) (w:World) (hat:bP w b o h):Calls prog 97 #[.pointer (some ⟨b,o,none⟩)] w fun e w'=>e=.returned (.slice h.kp h.kn h.kc)∧w=w':=by
 obtain ⟨h0,h1,h2,h3,h4,h5⟩:=hat
 go_enter func97,ntmps97
 go_wp2
 go_ret
 exact ⟨rfl,rfl⟩
theorem FT (bx fh:Nat) (ch:Array Value) (a:Addr) (w:World) (Q:World→Prop) (hbx:w.cell? ⟨bx,0,none⟩=some (.func (.func fh) #[] ch)) (hch:∀ args w,Sem.run prog (callFunc fh args) w=.ok (.enter fh args) w)
  (H:Calls prog fh (#[.pointer (some a)]++ch) w fun x w'=>x=.returned (.tuple #[])∧Q w') :
  Calls prog 98 #[.pointer (some a),.pointer (some ⟨bx,0,none⟩)] w fun x w'=>x=.returned (.bool true)∧Q w':=by
 have HH:=hid H;clear H
 go_enter func98,ntmps98
 go_wp2_with fail
 refine HH.out.mono ?_
 rintro x w' ⟨rfl,hq⟩;have HQ:=hid hq;clear hq
 go_wp2_with fail
 go_ret
 exact ⟨rfl,HQ.out⟩
structure gU (P:Nat→Prop) (w w':World):Prop where
 size:w.heap.size≤w'.heap.size
 blk:∀ b,P b→b < w.heap.size→w'.heap[b]?=w.heap[b]?
structure vI (P:Nat→Prop) (w w':World):Prop where
 os:w'.os=w.os
 tape:w'.tape=w.tape
 output:w'.output=w.output
 size:w.heap.size≤w'.heap.size
 blk:∀ b,b < w.heap.size→¬ P b→w'.heap[b]?=w.heap[b]?
theorem vI.below {P:Nat→Prop} {b0:Nat} {B w w':World} (h0:b0≤B.heap.size) (hb:Below b0 B w) (h:vI P w w') (hp:∀ b,P b→b0≤b):Below b0 B w' :=
 ⟨h.os.trans hb.os,h.tape.trans hb.tape,h.output.trans hb.output,Nat.le_trans hb.size h.size,fun j hj=>(h.blk j (Nat.lt_of_lt_of_le hj (Nat.le_trans h0 hb.size)) (fun hc=>absurd (hp j hc) (Nat.not_le.2 hj))).trans (hb.block j hj)⟩
set_option maxHeartbeats 4000000 in
theorem xR {ε:Type} (ad:ε→Addr) (sz:ε→Nat) (hsz:∀ e,1≤sz e) (I:List ε→(Nat→Prop)→World→Prop) (J:ε→List ε→(Nat→Prop)→World→Prop)
  (stab:∀ st P w w' P',I st P w→vI P w w'→(∀ b,P' b→P b∨w.heap.size≤b)→I st P' w')
  (fh:Nat) (ch:Array Value) (hch:∀ args w,Sem.run prog (callFunc fh args) w=.ok (.enter fh args) w)
  (HH:∀ e st P w,I (e :: st) P w→(∀ b,P b→b < w.heap.size)→Calls prog fh (#[.pointer (some (ad e))]++ch) w fun x w'=>x=.returned (.tuple #[])∧J e st P w'∧gU P w w')
  (HK:∀ e st P w,J e st P w→∃ (b o:Nat) (h:Hd) (kl:List ε),ad e=⟨b,o,none⟩∧bP w b o h∧h.kn=kl.length∧szs sz kl+1≤sz e∧(kl.length=0∨∃ b off,h.kp=some ⟨b,off,none⟩∧kl.length≤h.kc∧∀ i e',kl[i]?=some e'→ad e'=⟨b,off+i * 6,none⟩)∧I (kl++st) P w)
  (e0:ε) (w:World) (hM:sz e0≤10000000) (h0:∀ w' P,Below w.heap.size w w'→(∀ b,P b→w.heap.size≤b)→I [e0] P w') :
  Calls prog 57 #[.pointer (some (ad e0)),.func (.func fh) #[] ch] w fun x w'=>x=.returned (.tuple #[])∧∃ P,I [] P w':=by
 have H:=Ip ad sz hsz
  (fun st g w1=>I st (fun b=>b=w.heap.size∨b=g) w1∧w.heap.size≠g∧w1.cell? ⟨w.heap.size,0,none⟩=some (.func (.func fh) #[] ch)∧w.heap.size < w1.heap.size)
  (fun e st g w1=>J e st (fun b=>b=w.heap.size∨b=g) w1∧w.heap.size≠g∧w1.cell? ⟨w.heap.size,0,none⟩=some (.func (.func fh) #[] ch)∧w.heap.size < w1.heap.size)
  (by
   rintro st g w1 w2 g' ⟨h1,h4,h5,h6⟩ hg hg';refine ⟨stab st _ w1 w2 _ h1 ⟨hg.os,hg.tape,hg.output,hg.size,fun b hb hn=>hg.block b hb (fun e=>hn (.inr (Option.some.inj e)))⟩ ?_,?_,?_,Nat.lt_of_lt_of_le h6 hg.size⟩
   ·rintro b (rfl | rfl)
    ·exact .inl (.inl rfl)
    ·rcases hg' with rfl | h
     ·exact .inl (.inr rfl)
     ·exact .inr h
   ·rcases hg' with rfl | h
    ·exact h4
    ·omega
   ·exact (World.cell?_of_block (a:=⟨w.heap.size,0,none⟩) (hg.block w.heap.size h6 (fun e=>h4 (Option.some.inj e)))).trans h5)
  97 98 #[] #[.pointer (some ⟨w.heap.size,0,none⟩)] ZH ZA
  (by
   rintro e st g w1 ⟨h1,h4,h5,h6⟩ hgl;refine (FT w.heap.size fh ch (ad e) w1 (fun w'=>J e st (fun b=>b=w.heap.size∨b=g) w'∧gU (fun b=>b=w.heap.size∨b=g) w1 w') h5 hch (HH e st _ w1 h1 (by
    rintro b (rfl | rfl)
    ·exact h6
    ·exact hgl))).mono ?_
   rintro x w2 ⟨rfl,h7,h8⟩;exact ⟨rfl,⟨h7,h4,(World.cell?_of_block (a:=⟨w.heap.size,0,none⟩) (h8.blk _ (.inl rfl) h6)).trans h5,Nat.lt_of_lt_of_le h6 h8.size⟩,h8.size,h8.blk _ (.inr rfl) hgl⟩)
  (by
   rintro e st g w1 ⟨h1,h4,h5,h6⟩ hgl;obtain ⟨b,o,h,kl,ha,hat,hkn,hs,hp,hi⟩:=HK e st _ w1 h1;rw [ha];refine (zF b o h w1 hat).mono ?_
   rintro x w2 ⟨rfl,rfl⟩;exact ⟨h.kp,h.kc,kl,by rw [hkn],hs,hp,⟨hi,h4,h5,h6⟩,Nat.le_refl _,rfl⟩)
  e0 (w.alloc (.cells #[.func (.func fh) #[] ch] 107)) hM
  (by
   intro w1 hb;have hb0:Below w.heap.size w (w.alloc (.cells #[.func (.func fh) #[] ch] 107)):=(Below.refl _ _).alloc (Nat.le_refl _) _;have hz:(w.alloc (.cells #[.func (.func fh) #[] ch] 107)).heap.size=w.heap.size+1:=by simp
   have hbb:Below w.heap.size w w1:=hb0.trans (hb.mono (by omega));refine ⟨h0 w1 _ hbb (by rintro b (rfl | rfl) <;> omega),by omega,?_,by have:=hb.size; omega⟩
   refine (World.cell?_of_block (a:=⟨w.heap.size,0,none⟩) (hb.block w.heap.size (by omega))).trans ?_
   rw [cell_of_heap (heap_alloc_new w _)]; rfl)
 have HC:=hid H;clear H HH HK stab h0 hsz hM
 go_enter func57,ntmps57
 go_wp2_with fail
 refine HC.out.mono ?_
 rintro x w1 ⟨rfl,g,h1,_⟩;have HP:=hid (show ∃ P,I [] P w1 from ⟨_,h1⟩);clear h1
 go_wp2_with fail
 go_returns
 exact ⟨rfl,HP.out⟩
theorem kD (e0:BA) (w0 wS:World) (hg0:e0.Good w0) (hsz:e0.y.flatB.length≤10000000) (fh:Nat) (ch:Array Value) (hch:∀ args w,Sem.run prog (callFunc fh args) w=.ok (.enter fh args) w)
  (A:List Br→(Nat→Prop)→World→Prop)
  (stab:∀ l P w w' P',A l P w→vI P w w'→(∀ b,P' b→P b∨w.heap.size≤b)→A l P' w')
  (low:∀ l P w,A l P w→Below w0.heap.size w0 w)
  (HW:∀ l (e:BA) r P w,A l P w→(∀ b,P b→b < w.heap.size)→e.Good w0→l++e.y :: r=e0.y.flatB→Calls prog fh (#[.pointer (some e.ad)]++ch) w fun x w'=>x=.returned (.tuple #[])∧A (l++[e.y]) P w'∧gU P w w')
  (h0:∀ w' P,Below wS.heap.size wS w'→(∀ b,P b→wS.heap.size≤b)→A [] P w') :
  Calls prog 57 #[.pointer (some e0.ad),.func (.func fh) #[] ch] wS fun x w'=>x=.returned (.tuple #[])∧∃ P,A e0.y.flatB P w':=by
 have szK:∀ e:BA,szs szB e.kids+1≤szB e:=fun e=>by
  rw [rM,szB,cZ,List.length_cons]
  have:(aB (e.kids.map BA.y)).length≤(aB e.y.ks).length:=by
   unfold BA.kids
   cases e.y.h.kp with
   | none=>simp [aB]
   | some a =>
    simp only
    rw [kC];exact Nat.le_refl _
  omega
 refine (xR BA.ad szB (fun e=>ig e.y)
  (fun st P w=>∃ l,A l P w∧l++aB (st.map BA.y)=e0.y.flatB∧∀ e ∈ st,e.Good w0)
  (fun e st P w=>∃ l,A (l++[e.y]) P w∧l++e.y :: (aB e.y.ks++aB (st.map BA.y))=e0.y.flatB∧e.Good w0∧∀ e ∈ st,e.Good w0)
  (fun st P w w' P' ⟨l,h1,h2,h3⟩ h4 h5=>⟨l,stab _ _ _ _ _ h1 h4 h5,h2,h3⟩)
  fh ch hch ?_ ?_ e0 wS hsz (fun w' P hb hp=>⟨[],h0 w' P hb hp,by simp [aB],fun e he=>by rw [List.mem_singleton.1 he]; exact hg0⟩)).mono ?_
 ·rintro e st P w ⟨l,h1,h2,h3⟩ hpb
  have he:=h3 e (by simp);have hx:l++e.y :: (aB e.y.ks++aB (st.map BA.y))=e0.y.flatB:=by
   rw [← h2,List.map_cons,aB,cZ]; simp
  refine (HW l e _ P w h1 hpb he hx).mono ?_
  rintro x w' ⟨rfl,h4,h5⟩;exact ⟨rfl,⟨l,h4,hx,he,fun z hz=>h3 z (by simp [hz])⟩,h5⟩
 ·rintro e st P w ⟨l,h1,h2,h3,h4⟩
  have he:=h3.step (low _ _ _ h1);have hkl:=qX e w0 h3;have hkn:e.y.h.kn=e.kids.length:=by
   have:=((aO _ _).1 h3.lies).2.1.1
   omega
  refine ⟨e.b,e.o,e.y.h,e.kids,rfl,he.at_,hkn,szK e,GM e w0 h3,⟨l++[e.y],h1,?_,?_⟩⟩
  ·rw [List.map_append,iE,wE e w0 h3,← h2]; simp
  ·intro z hz
   rcases List.mem_append.1 hz with hz | hz
   ·exact xE e w0 h3 z hz
   ·exact h4 z hz
 ·rintro x w' ⟨rfl,P,l,h1,h2,_⟩
  simp only [List.map_nil,aB,List.append_nil] at h2;exact ⟨rfl,P,by rw [← h2]; exact h1⟩
theorem Zy (args:Array Value) (w:World):Sem.run prog (callFunc 61 args) w=.ok (.enter 61 args) w:=aV func61 (by kernel_rfl) (by kernel_rfl) args w
theorem Bd (a:Addr) (sb n:Nat) (w:World) (hn:n≤10000000) (hs:w.cell? ⟨sb,0,none⟩=some (.int .i64 n)) (hf:w.frozen? ⟨sb,0,none⟩=false) :
  Calls prog 61 #[.pointer (some a),.pointer (some ⟨sb,0,none⟩)] w fun x w'=>x=.returned (.tuple #[])∧w'=w.setCell ⟨sb,0,none⟩ (.int .i64 ((n+1:Nat):Int)):=by
 have hadd:IntKind.i64.wrap ((n:Int)+1)=((n+1:Nat):Int):=by rw [show ((n+1:Nat):Int)=(n:Int)+1 by omega]; exact IntWalk.i64_in _ (by omega)
 go_enter func61,ntmps61
 go_wp2
 go_end0
 exact ⟨rfl,rfl⟩
theorem kF (nd:Br) (w:World) (h:nd.Lies w) (t:TypeId):BA.Good ⟨nd,w.heap.size,0⟩ (w.alloc (.cells #[.int .i64 nd.h.k,.int .i64 nd.h.m,.int .i64 nd.h.f,.int .i64 nd.h.t,.slice nd.h.np nd.h.nn nd.h.nc,.slice nd.h.kp nd.h.kn nd.h.kc] t)):=by
 have hc:=cell_of_heap (heap_alloc_new w (.cells #[.int .i64 nd.h.k,.int .i64 nd.h.m,.int .i64 nd.h.f,.int .i64 nd.h.t,.slice nd.h.np nd.h.nn nd.h.nc,.slice nd.h.kp nd.h.kn nd.h.kc] t));refine ⟨⟨(hc 0).trans rfl,(hc 1).trans rfl,(hc 2).trans rfl,(hc 3).trans rfl,(hc 4).trans rfl,(hc 5).trans rfl⟩,h.step _ ((Below.refl _ _).alloc (Nat.le_refl _) _),by simp⟩
set_option maxHeartbeats 4000000 in
theorem size_any (nd:Br) (w:World) (hl:nd.Lies w) (hn:nd.flatB.length≤10000000):Calls prog 25 #[nd.h.val] w fun x w'=>x=.returned (.int .i64 nd.flatB.length)∧Below w.heap.size w w':=by
 have hg:=kF nd w hl 26;generalize hB:w.alloc (.cells #[.int .i64 nd.h.k,.int .i64 nd.h.m,.int .i64 nd.h.f,.int .i64 nd.h.t,.slice nd.h.np nd.h.nn nd.h.nc,.slice nd.h.kp nd.h.kn nd.h.kc] 26)=B at hg;have hBB:Below w.heap.size w B:=by rw [← hB]; exact (Below.refl _ _).alloc (Nat.le_refl _) _
 have D7:B.heap.size=w.heap.size+1:=by rw [← hB]; simp
 have H:=kD ⟨nd,w.heap.size,0⟩ B (B.alloc (.cells #[.int .i64 0] 3)) hg hn 61 #[.pointer (some ⟨B.heap.size,0,none⟩)] Zy
  (fun l P w1=>Below B.heap.size B w1∧¬ P B.heap.size∧(∀ b,P b→B.heap.size≤b)∧w1.heap[B.heap.size]?=some (.cells #[.int .i64 l.length] 3))
  (by
   rintro l P w1 w2 P' ⟨h1,h2,h3,h4⟩ hg hp;have hlt:B.heap.size < w1.heap.size:=(Array.getElem?_eq_some_iff.1 h4).1;refine ⟨hg.below (Nat.le_refl _) h1 h3,fun h=>?_,fun b h=>?_,(hg.blk _ hlt h2).trans h4⟩
   ·rcases hp _ h with h | h
    ·exact h2 h
    ·omega
   ·rcases hp _ h with h | h
    ·exact h3 b h
    ·omega)
  (fun l P w1 h=>h.1)
  (by
   rintro l e r P w1 ⟨h1,h2,h3,h4⟩ _ he hx;have hlen:l.length≤10000000:=by have:=congrArg List.length hx; rw [List.length_append] at this; simp only [show (⟨nd,w.heap.size,0⟩:BA).y=nd from rfl] at this; omega
   have hlt:B.heap.size < w1.heap.size:=(Array.getElem?_eq_some_iff.1 h4).1;refine (Bd e.ad B.heap.size l.length w1 hlen (by rw [cell_of_heap h4]; rfl) (by simp [World.frozen?,h4])).mono ?_
   rintro x w2 ⟨rfl,rfl⟩;have hk:∀ b,b≠B.heap.size→(w1.setCell ⟨B.heap.size,0,none⟩ (.int .i64 ((l.length+1:Nat):Int))).heap[b]?=w1.heap[b]?:=fun b hb=>by
    exact Below.heap_setCell _ _ _ _ hb
   refine ⟨rfl,⟨?_,h2,h3,?_⟩,?_,fun b hb _=>hk b (fun e=>h2 (e ▸ hb))⟩
   ·exact h1.setCell (Nat.le_refl _) _
   ·rw [List.length_append,List.length_singleton]; exact one_setCell h4
   ·simp)
  (by
   intro w1 P hb hp;have hz:(B.alloc (.cells #[.int .i64 0] 3)).heap.size=B.heap.size+1:=by simp
   refine ⟨((Below.refl _ _).alloc (Nat.le_refl _) _).trans (hb.mono (by omega)),fun h=>?_,fun b h=>?_,(hb.block _ (by omega)).trans (heap_alloc_new B _)⟩
   ·have:=hp _ h; omega
   ·have:=hp _ h; omega)
 simp only [D7] at H;have HC:=hid H;obtain ⟨N,hN⟩:∃ N,N=nd.flatB.length:=⟨_,rfl⟩
 rw [← hN];have HN:=hid hN;clear H hg hN hn;rw [← hB] at HC;have abA:=hid D7;have X9:=hid hBB;clear D7 hBB;subst hB
 go_enter func25,ntmps25
 simp only [Hd.val]
 go_wp2_with fail
 refine HC.out.mono ?_
 rintro x w1 ⟨rfl,P,h1,_,_,h4⟩;have c0:w1.cell? ⟨w.heap.size+1,0,none⟩=some (.int .i64 (N:Int)):=by rw [HN.out]; exact cell_of_heap h4 0
 have HB1:=hid (X9.out.trans (h1.mono (by omega)));clear h1 h4 HC
 go_wp2_with fail
 go_ret
 exact ⟨rfl,HB1.out⟩
def aX (m:Nat) (dv:Nat→Bool) (x:Int):Bool:=decide (0≤x) && decide (x < (m:Int)) && dv x.toNat
def lH (l:List Int):List Value:=l.map fun x=>.int .i64 x
structure DA (B:World) (ob:Nat) (acc:List Int) (P:Nat→Prop) (w:World):Prop where
 below:Below B.heap.size B w
 low:B.heap.size≤ob
 np:¬ P ob
 pl:∀ b,P b→B.heap.size≤b
 row:∃ v:Value,w.heap[ob]?=some (.cells #[v] 23)∧w.ownsRow B.heap.size 3 1 v acc.length (lH acc)∧(∀ g,v.ownBlock=some g→¬ P g∧g≠ob)
theorem qJ (w:World) (o:Obj) (i:Nat) (h:i < w.heap.size):(w.alloc o).heap[i]?=w.heap[i]?:=((Below.refl w.heap.size w).alloc (Nat.le_refl _) o).block i h
theorem uf {w w':World} {base E size n:Nat} {v:Value} {xs:List Value} (h:w.ownsRow base E size v n xs) (hk:∀ g,v.ownBlock=some g→w'.heap[g]?=w.heap[g]?):w'.ownsRow base E size v n xs:=by
 obtain ⟨hl,h0 | ⟨g',c',cur,hv,hb,hh,hle,hm,hs,ht⟩⟩:=h
 ·exact ⟨hl,.inl h0⟩
 ·exact ⟨hl,.inr ⟨g',c',cur,hv,hb,(hk g' (by rw [hv]; rfl)).trans hh,hle,hm,hs,ht⟩⟩
theorem oL {w:World} {base E size n:Nat} {v:Value} {xs:List Value} (h:w.ownsRow base E size v n xs) {g:Nat} (hg:v.ownBlock=some g):base≤g∧g < w.heap.size:=by
 obtain ⟨hl,h0 | ⟨g',c',cur,hv,hb,hh,hle,hm,hs,ht⟩⟩:=h
 ·rw [h0.1] at hg; cases hg
 ·rw [hv] at hg
  obtain rfl:g'=g:=by simpa [Value.ownBlock] using hg
  exact ⟨hb,(Array.getElem?_eq_some_iff.1 hh).1⟩
theorem DA.stab {B:World} {ob:Nat} {acc:List Int} {P P':Nat→Prop} {w w':World} (h:DA B ob acc P w) (hg:vI P w w') (hp:∀ b,P' b→P b∨w.heap.size≤b):DA B ob acc P' w':=by
 obtain ⟨h1,h2,h3,h4,v,h5,h6,h7⟩:=h;have hlt:ob < w.heap.size:=(Array.getElem?_eq_some_iff.1 h5).1;refine ⟨hg.below (Nat.le_refl _) h1 h4,h2,fun h=>?_,fun b h=>?_,v,(hg.blk _ hlt h3).trans h5,uf h6 fun g hgv=>hg.blk g (oL h6 hgv).2 (h7 g hgv).1,fun g hgv=>⟨fun h=>?_,(h7 g hgv).2⟩⟩
 ·rcases hp _ h with h | h
  ·exact h3 h
  ·omega
 ·rcases hp _ h with h | h
  ·exact h4 b h
  ·have:=h1.size; omega
 ·rcases hp _ h with h | h
  ·exact (h7 g hgv).1 h
  ·have:=(oL h6 hgv).2; omega
theorem TI (args:Array Value) (w:World):Sem.run prog (callFunc 66 args) w=.ok (.enter 66 args) w:=aV func66 (by kernel_rfl) (by kernel_rfl) args w
set_option maxHeartbeats 4000000 in
theorem FO (B:World) (ob lb oa m c:Nat) (dv:Nat→Bool) (acc:List Int) (P:Nat→Prop) (e:BA) (w:World) (hA:DA B ob acc P w) (hpb:∀ b,P b→b < w.heap.size) (he:e.Good B) (hlb:B.cell? ⟨lb,0,none⟩=some (.slice (some ⟨oa,0,none⟩) m c)) (RX:lb < B.heap.size)
  (KF:oa < B.heap.size) (hmc:m≤c) (oW:∀ i,i < m→B.cell? ⟨oa,i * 5+4,none⟩=some (.bool (dv i))) (hmm:m≤10000000) (hln:(acc++e.y.h.ns).length≤10000000) (hwf:∀ x ∈ e.y.h.ns,(Lit.int .i64 x).wf=true) :
  Calls prog 66 #[.pointer (some e.ad),.pointer (some ⟨lb,0,none⟩),.pointer (some ⟨ob,0,none⟩)] w fun x w'=>x=.returned (.tuple #[])∧DA B ob (acc++e.y.h.ns.filter (aX m dv)) P w'∧gU P w w':=by
 obtain ⟨y,b,o⟩:=e;have HAT:=hid (fun W (hW:Below B.heap.size B W)=>(he.at_.step he.lt hW));have HN:=hid ((aO _ _).1 he.lies).1;have HL:=hid (fun W (hW:Below B.heap.size B W)=>(hW.cell (p:=⟨lb,0,none⟩) RX).trans hlb);have HO:=hid (fun W (hW:Below B.heap.size B W) i (hi:i < m)=>(hW.cell (p:=⟨oa,i * 5+4,none⟩) KF).trans (oW i hi));obtain ⟨h,ks⟩:=y;obtain ⟨hk,hm,hf,ht,np,nn,nc,ns,kp,kn,kc⟩:=h;rw [show (Br.mk ⟨hk,hm,hf,ht,np,nn,nc,ns,kp,kn,kc⟩ ks).h=⟨hk,hm,hf,ht,np,nn,nc,ns,kp,kn,kc⟩ from rfl] at *;dsimp only at *
 have hnn:nn=ns.length:=HN.out.1;have DI:=hid hnn;have UZ:=hid hwf;have Ug:=hid hpb;clear hpb;have hnl:nn≤10000000:=by simp at hln; omega
 have yF:Hid (acc.length+nn≤10000000):=hid (by simp at hln; omega);have infoI:(prog.info? 3).map (fun i=>(i.zero,i.size,i.bytes))=some (some (.int .i64 0),1,8):=by kernel_rfl
 obtain ⟨i0,hi0,hy0,hy1,hy2⟩:=info_parts infoI;have Hf:=hid hA;have yA:Hid (ob < w.heap.size):=hid (by obtain ⟨v,h5,_⟩:=hA.row; exact (Array.getElem?_eq_some_iff.1 h5).1);clear he hln hnn hlb oW hwf infoI;obtain ⟨a0,a1,a2,a3,a4,a5⟩:=HAT.out w hA.below;dsimp only at a0 a1 a2 a3 a4 a5
 clear hA
 go_enter func66,ntmps66
 go_wp2_with fail
 clear a0 a1 a2 a3 a4 a5
 go_loopw [11] (fun iv wr=>∃ i:Nat,i≤nn∧iv=.int .i64 i∧Hid (DA B ob (acc++(ns.take i).filter (aX m dv)) P wr)∧Hid (gU P w wr)) (fun iv _=>nn - (intOf iv).toNat)
 case atStart=>exact ⟨0,by omega,rfl,hid (by simpa using Hf.out),hid ⟨Nat.le_refl _,fun _ _ _=>rfl⟩⟩
 case round =>
  obtain ⟨i,hi,rfl,HA,HKB⟩:=hrel;have hbw:=HA.out.below
  by_cases hlt:i < nn
  ·obtain ⟨b1,off,rfl,hc1,hb1,nN⟩:=HN.out.2.resolve_left (by omega)
   have hil:i < ns.length:=by rw [← DI.out]; exact hlt
   have q0:wr.cell? ⟨b1,off+i,none⟩=some (.int .i64 ns[i]):=(nN.step hb1 hbw) i hil;have q1:=HL.out wr hbw;have r1:(0:Int)≤(i:Int):=by omega
   have r2:(i:Int) < (nn:Int):=by omega
   have htk:ns.take (i+1)=ns.take i++[ns[i]]:=List.take_succ_eq_append_getElem hil;have yG:Hid ((ns.take (i+1)).filter (aX m dv)=(ns.take i).filter (aX m dv)++[ns[i]].filter (aX m dv)):=hid (by rw [htk,List.filter_append]);have hwx:=UZ.out ns[i] (List.getElem_mem hil);have HF2:Hid ((acc++(ns.take i).filter (aX m dv)).length≤acc.length+i):=hid (by rw [List.length_append]; have:=List.length_filter_le (aX m dv) (ns.take i); rw [List.length_take] at this; omega);clear nN htk;generalize hxe:ns[i]=x at *;clear hxe
   by_cases hx0:0≤x
   ·by_cases hxm:x < (m:Int)
    ·obtain ⟨j,rfl⟩:∃ j:Nat,x=j:=⟨x.toNat,by omega⟩
     have hj:j < m:=by omega
     have q2:=HO.out wr hbw j hj
     cases hd:dv j
     ·rw [hd] at q2
      have qA:Hid ([(j:Int)].filter (aX m dv)=[]):=hid (by simp [aX,hd]);have KG:=hid HA;have HFF:=hid HF2;clear HA HF2
      go_wp2_with fail
      go_roundw
      case rel=>exact ⟨i+1,by omega,by go_num,hid (by rw [yG.out,qA.out,List.append_nil]; exact KG.out.out),HKB⟩
      case measure=>simp [intOf]; omega
     ·rw [hd] at q2
      have qA:Hid ([(j:Int)].filter (aX m dv)=[(j:Int)]):=hid (by simp [aX,hd]; omega);obtain ⟨v,hb5,hown,hblk⟩:=HA.out.row;have q3:wr.cell? ⟨ob,0,none⟩=some v:=cell_of_heap hb5 0;have hfz:wr.frozen? ⟨ob,0,none⟩=false:=by simp [World.frozen?,hb5]
      have wG:ob < wr.heap.size:=(Array.getElem?_eq_some_iff.1 hb5).1;have hbz:=hbw.size;obtain ⟨A,RY⟩:∃ A,A=(acc++(ns.take i).filter (aX m dv)).length:=⟨_,rfl⟩
      have hA2:A≤20000000:=by have:=HF2.out; have:=yF.out; omega
      rw [← RY] at hown;have HOW:=hid hown;have mg:=hid hb5;have zS:=hid hblk;have U0:=hid RY;clear hown hb5 hblk RY HF2
      go_wp2_with (at_builtin; refine wpList_append_lies _ rfl _ _ 23 rfl B.heap.size 3 i0 _ 1 8 underlying23 hi0 hy0 hy1 hy2 rfl (by omega) _ A _ rfl (World.ownsRow.alloc HOW.out _) ⟨wr.heap.size,0,none⟩ 1 1 [.int .i64 (j:Int)] rfl rfl kX (by simp [Value.oneCell']) (by omega) (by unfold maxLen; omega) (by omega) (by simp; omega) (wr.heap.size+1) (by simp) ?_; intro g2 c3 w3 hown3 hgrow hgg hlt3; replace hgrow:(wr.alloc (.cells #[.int .i64 (j:Int)] 3)).grownBy w3 v.ownBlock:=hgrow; replace hgg:v.ownBlock=some g2∨g2=wr.heap.size+1:=hgg; have hb3:w3.heap[ob]?=some (.cells #[v] 23):=(hgrow.block ob (by simp; omega) (fun e=>(zS.out ob e.symm).2 rfl)).trans ((qJ _ _ _ wG).trans mg.out); have c3c:w3.cell? ⟨ob,0,none⟩=some v:=cell_of_heap hb3 0; have c3f:w3.frozen? ⟨ob,0,none⟩=false:=(by simp [World.frozen?,hb3]); have iQ:=hid hgrow; have U1:=hid hgg; have HB3:=hid hb3; have wF:=hid hown3; clear hown3 hgrow hgg hb3)
      go_roundw
      case rel =>
       have hz3:=iQ.out.size;rw [show (wr.alloc (.cells #[.int .i64 (j:Int)] 3)).heap.size=wr.heap.size+1 by simp] at hz3;have hgo:g2≠ob:=by
        rcases U1.out with h | h
        ·exact (zS.out _ h).2
        ·omega
       have hoth:∀ q,q < wr.heap.size→q≠ob→v.ownBlock≠some q→(w3.setCell ⟨ob,0,none⟩ (.slice (some ⟨g2,0,none⟩) (A+1) c3)).heap[q]?=wr.heap[q]?:=fun q hq h1 h2=>by
        rw [Below.heap_setCell _ _ _ _ h1,iQ.out.block q (by simp; omega) (fun e=>h2 e.symm)];exact qJ _ _ _ hq
       have hlow:=HA.out.low;refine ⟨i+1,by omega,by go_num,hid ?_,hid ?_⟩
       ·rw [yG.out,qA.out,← List.append_assoc]
        refine ⟨⟨?_,?_,?_,?_,?_⟩,HA.out.low,HA.out.np,HA.out.pl,_,one_setCell HB3.out,?_,?_⟩
        ·exact iQ.out.os.trans hbw.os
        ·exact iQ.out.tape.trans hbw.tape
        ·exact iQ.out.output.trans hbw.output
        ·simp; omega
        ·intro q hq
         rw [hoth q (by omega) (by omega) (fun e=>by have:=(oL HOW.out e).1; omega)];exact hbw.block q hq
        ·rw [List.length_append,← U0.out,List.length_singleton,lH,List.map_append]
         exact uf wF.out fun g hg=>Below.heap_setCell _ _ _ _ (by
          obtain rfl:g2=g:=by simpa [Value.ownBlock] using hg
          exact hgo)
        ·intro g hg
         obtain rfl:g2=g:=by simpa [Value.ownBlock] using hg
         refine ⟨fun h=>?_,hgo⟩
         rcases U1.out with h1 | h1
         ·exact (zS.out _ h1).1 h
         ·have:=Ug.out _ h; have:=HKB.out.size; omega
       ·refine ⟨?_,fun q hq Xd=>?_⟩
        ·have:=HKB.out.size; simp; omega
        ·have:=HKB.out.size
         rw [hoth q (by omega) (fun e=>HA.out.np (e ▸ hq)) (fun e=>(zS.out _ e).1 hq)];exact HKB.out.blk q hq Xd
      case measure=>simp [intOf]; omega
    ·have qA:Hid ([x].filter (aX m dv)=[]):=hid (by simp [aX,hxm])
     have KG:=hid HA;clear HA HF2
     go_wp2_with fail
     go_roundw
     case rel=>exact ⟨i+1,by omega,by go_num,hid (by rw [yG.out,qA.out,List.append_nil]; exact KG.out.out),HKB⟩
     case measure=>simp [intOf]; omega
   ·have qA:Hid ([x].filter (aX m dv)=[]):=hid (by simp [aX,hx0])
    have KG:=hid HA;clear HA HF2
    go_wp2_with fail
    go_roundw
    case rel=>exact ⟨i+1,by omega,by go_num,hid (by rw [yG.out,qA.out,List.append_nil]; exact KG.out.out),HKB⟩
    case measure=>simp [intOf]; omega
  ·have hin:i=nn:=by omega
   subst hin;have U2:Hid (DA B ob (acc++ns.filter (aX m dv)) P wr):=hid (by have:=HA.out; rw [DI.out,List.take_length] at this; exact this);clear HA hbw
   go_wp2_with fail
   go_end0
   exact ⟨rfl,U2.out,HKB.out⟩
open Go.RowKit Go.Sort
theorem uU {w:World} {base E n g c k:Nat} {xs:List Value} (h:w.ownsRow base E 1 (.slice (some ⟨g,0,none⟩) n c) n xs) (hk:k≤n):w.ownsRow base E 1 (.slice (some ⟨g,0,none⟩) k c) k (xs.take k):=by
 obtain ⟨hl,⟨h0,_⟩ | ⟨g',c',cur,hv,hb,hh,hle,hm,hs,ht⟩⟩:=h
 ·cases h0
 ·simp only [Value.slice.injEq,Option.some.injEq,Addr.mk.injEq,and_true,true_and] at hv
  obtain ⟨rfl,rfl⟩:=hv;refine ⟨by simp at hl ⊢; omega,.inr ⟨g,c,cur,rfl,hb,hh,by omega,hm,hs,?_⟩⟩
  rw [Nat.mul_one] at ht ⊢;rw [← ht,List.take_take,Nat.min_eq_left hk]
theorem dS {w w':World} {base g n c:Nat} {ss ts:List Int} (h:w.ownsRow base 3 1 (.slice (some ⟨g,0,none⟩) n c) n (lH ss)) (hn:ss.length=n) (hl:ts.length=ss.length) (hw:∃ q os,w'=grow (putRow (Value.int .i64) (Sort.ahead w q) g 0 ts.toArray) os) :
  w'.ownsRow base 3 1 (.slice (some ⟨g,0,none⟩) n c) n (lH ts)∧w.grownBy w' (some g)∧Holds (Value.int .i64) w g 0 ss.toArray∧g < w.heap.size∧n≤c:=by
 obtain ⟨q,os,rfl⟩:=hw;obtain ⟨hl2,⟨h0,_⟩ | ⟨g',c',cur,hv,hb,hh,hle,hm,hs,ht⟩⟩:=h
 ·cases h0
 ·simp only [Value.slice.injEq,Option.some.injEq,Addr.mk.injEq,and_true,true_and] at hv
  obtain ⟨rfl,rfl⟩:=hv;subst hn;refine ⟨ownsRow_sortedI hl hb hh hle hm hs,grownBy_sortedI _,holds_of_blockI hh (by simpa [lH] using ht),(Array.getElem?_eq_some_iff.1 hh).1,hle⟩
theorem FV (ts:List Int):(compact ts).length≤ts.length:=by
 have h:∀ (d:Array Int) (m:Nat),(Lib.compactUpTo d m).length≤m:=fun d m=>by
  induction m with
  | zero=>simp [Lib.compactUpTo]
  | succ m ih =>
   rw [Lib.compactUpTo_succ,List.length_append]
   split <;> simp <;> omega
 exact h _ _
set_option maxHeartbeats 4000000 in
theorem zG (nd:Br) (oa m c:Nat) (dv:Nat→Bool) (w:World) (hl:nd.Lies w) (hn:nd.flatB.length≤10000000) (KF:oa < w.heap.size) (hmc:m≤c) (oW:∀ i,i < m→w.cell? ⟨oa,i * 5+4,none⟩=some (.bool (dv i))) (hmm:m≤10000000)
  (hln:(aS nd.flatB).length≤10000000) (hwf:∀ x ∈ aS nd.flatB,(Lit.int .i64 x).wf=true) (hne:(aS nd.flatB).filter (aX m dv)≠[]) :
  Calls prog 28 #[nd.h.val,.slice (some ⟨oa,0,none⟩) m c] w fun x w'=>∃ g cap,x=.returned (.slice (some ⟨g,0,none⟩) (compact (((aS nd.flatB).filter (aX m dv)).mergeSort fun x y=>decide (x≤y))).length cap) ∧
   w'.ownsRow w.heap.size 3 1 (.slice (some ⟨g,0,none⟩) (compact (((aS nd.flatB).filter (aX m dv)).mergeSort fun x y=>decide (x≤y))).length cap) (compact (((aS nd.flatB).filter (aX m dv)).mergeSort fun x y=>decide (x≤y))).length (lH (compact (((aS nd.flatB).filter (aX m dv)).mergeSort fun x y=>decide (x≤y))))∧Below w.heap.size w w':=by
 have hg0:=kF nd w hl 26;generalize hB0:w.alloc (.cells #[.int .i64 nd.h.k,.int .i64 nd.h.m,.int .i64 nd.h.f,.int .i64 nd.h.t,.slice nd.h.np nd.h.nn nd.h.nc,.slice nd.h.kp nd.h.kn nd.h.kc] 26)=B0 at hg0;have Aq:Below w.heap.size w B0:=by rw [← hB0]; exact (Below.refl _ _).alloc (Nat.le_refl _) _
 have uh:B0.heap.size=w.heap.size+1:=by rw [← hB0]; simp
 generalize hB:B0.alloc (.cells #[.slice (some ⟨oa,0,none⟩) m c] 27)=B;have hB1:Below B0.heap.size B0 B:=by rw [← hB]; exact (Below.refl _ _).alloc (Nat.le_refl _) _
 have D7:B.heap.size=w.heap.size+1+1:=by rw [← hB,← uh]; simp
 have hg:BA.Good ⟨nd,w.heap.size,0⟩ B:=hg0.step hB1;have hBw:Below w.heap.size w B:=Aq.trans (hB1.mono (by omega));have hlb:B.cell? ⟨w.heap.size+1,0,none⟩=some (.slice (some ⟨oa,0,none⟩) m c):=by rw [← uh,← hB,cell_of_heap (heap_alloc_new B0 _)]; rfl
 have Ar:∀ i,i < m→B.cell? ⟨oa,i * 5+4,none⟩=some (.bool (dv i)):=fun i hi=>(hBw.cell (p:=⟨oa,i * 5+4,none⟩) KF).trans (oW i hi)
 have H:=kD ⟨nd,w.heap.size,0⟩ B (B.alloc (.cells #[.slice none 0 0] 23)) hg hn 66 #[.pointer (some ⟨w.heap.size+1,0,none⟩),.pointer (some ⟨B.heap.size,0,none⟩)] TI
  (fun l P w1=>DA B B.heap.size ((aS l).filter (aX m dv)) P w1)
  (fun l P w1 w2 P' h hg hp=>h.stab hg hp)
  (fun l P w1 h=>h.below)
  (by
   rintro l e r P w1 hA hpb he hx;have hx2:aS nd.flatB=aS l++(e.y.h.ns++aS r):=by
    have h9:nd.flatB=l++e.y :: r:=hx.symm;rw [h9,dG]; simp [aS]
   have hlen:=congrArg List.length hx2;rw [List.length_append,List.length_append] at hlen;have hfl:=List.length_filter_le (aX m dv) (aS l);refine (FO B B.heap.size (w.heap.size+1) oa m c dv _ P e w1 hA hpb he hlb (by omega) (by have:=hBw.size; omega) hmc Ar hmm (by rw [List.length_append]; omega) (fun x hx3=>hwf x (by rw [hx2]; simp [hx3]))).mono ?_
   rintro x w2 ⟨rfl,h1,h2⟩;refine ⟨rfl,?_,h2⟩
   rw [dG,rq,List.filter_append];exact h1)
  (by
   intro w1 P hb hp;have hz:(B.alloc (.cells #[.slice none 0 0] 23)).heap.size=B.heap.size+1:=by simp
   refine ⟨((Below.refl _ _).alloc (Nat.le_refl _) _).trans (hb.mono (by omega)),Nat.le_refl _,fun h=>?_,fun b h=>?_,.slice none 0 0,(hb.block _ (by omega)).trans (heap_alloc_new B _),⟨rfl,.inl ⟨rfl,rfl⟩⟩,fun g hg=>by cases hg⟩
   ·have:=hp _ h; omega
   ·have:=hp _ h; omega)
 have hD:∃ D,D=(aS nd.flatB).filter (aX m dv):=⟨_,rfl⟩
 obtain ⟨D,hD⟩:=hD;have hDl:D.length≤10000000:=by rw [hD]; have:=List.length_filter_le (aX m dv) (aS nd.flatB); omega
 rw [show (⟨nd,w.heap.size,0⟩:BA).y=nd from rfl,← hD] at H;rw [← hD] at hne ⊢;obtain ⟨ts,hts⟩:∃ ts,ts=D.mergeSort fun x y=>decide (x≤y):=⟨_,rfl⟩
 have htl:ts.length=D.length:=by rw [hts]; simp
 rw [← hts];simp only [D7] at H;have HC:=hid H;have sW:=hid hBw;have Gj:=hid D7;have KH:=hid hts;have KI:=hid htl;have KJ:=hid hne;clear H hD hg hn hl hg0 hB1 Aq hlb Ar hBw D7 hts htl hne hln hwf oW;obtain ⟨Dn,hDn⟩:∃ Dn,Dn=D.length:=⟨_,rfl⟩
 have zX:=hid hDn;have U3:Dn≤10000000:=by omega
 rw [← hB,← hB0] at HC;have mi:Hid (B=(w.alloc (.cells #[.int .i64 nd.h.k,.int .i64 nd.h.m,.int .i64 nd.h.f,.int .i64 nd.h.t,.slice nd.h.np nd.h.nn nd.h.nc,.slice nd.h.kp nd.h.kn nd.h.kc] 26)).alloc (.cells #[.slice (some ⟨oa,0,none⟩) m c] 27)):=hid (by rw [← hB,← hB0]);clear hB hB0 uh hDn hDl
 go_enter func28,ntmps28
 simp only [Hd.val]
 go_wp2_with fail
 refine HC.out.mono ?_
 rintro x w1 ⟨rfl,P,hA⟩;rw [← mi.out] at hA;obtain ⟨hbel,hlow,DJ,hpl,v,hb5,hown,hblk⟩:=hA;obtain ⟨g,cap,hv⟩:∃ g cap,v=.slice (some ⟨g,0,none⟩) Dn cap:=by
  obtain ⟨hl2,⟨_,h0⟩ | ⟨g',c',cur,hv,hb,hh,hle,hm,hs,ht⟩⟩:=hown
  ·exact absurd (by simpa [lH] using h0) KJ.out
  ·exact ⟨g',c',by rw [hv,zX.out]⟩
 subst hv;rw [← zX.out] at hown;have KL:g≠w.heap.size+1+1:=(hblk g rfl).2;have hgB:B.heap.size≤g:=(oL hown rfl).1;have hq:∀ (W W2:World) (ss rs:List Int),W.ownsRow B.heap.size 3 1 (.slice (some ⟨g,0,none⟩) Dn cap) Dn (lH ss)→ss.length=Dn→rs.length=ss.length→(∃ q os,W2=grow (putRow (Value.int .i64) (Sort.ahead W q) g 0 rs.toArray) os)→_:=fun W W2 ss rs h1 h2 h3 h4=>dS h1 h2 h3 h4
 obtain ⟨_,_,hH,hgl,hdc⟩:=dS (w':=grow (putRow (Value.int .i64) (Sort.ahead w1 0) g 0 D.toArray) #[]) hown zX.out.symm rfl ⟨0,#[],rfl⟩;have JQ:=slices_Sort_int g 0 cap D w1 hH hgl (by have:=zX.out; omega);rw [← KH.out] at JQ;rw [show D.length=Dn from zX.out.symm] at JQ;have c5:w1.cell? ⟨w.heap.size+1+1,0,none⟩=some (.slice (some ⟨g,0,none⟩) Dn cap):=cell_of_heap hb5 0;have wG:w.heap.size+1+1 < w1.heap.size:=(Array.getElem?_eq_some_iff.1 hb5).1;have QH:=hid JQ;have HOW:=hid hown;have wH:=hid hbel;clear JQ hown hbel hlow DJ hpl hblk hb5 hq HC hH
 go_wp2_with fail
 refine QH.out.mono ?_
 rintro x w2 ⟨rfl,nn,os,hw2⟩;obtain ⟨hown2,nI,_,_,_⟩:=dS HOW.out zX.out.symm KI.out ⟨nn,os,hw2⟩;clear hw2;have c6:w2.cell? ⟨w.heap.size+1+1,0,none⟩=some (.slice (some ⟨g,0,none⟩) Dn cap):=(World.cell?_of_block (a:=⟨w.heap.size+1+1,0,none⟩) (nI.block _ wG (fun e=>KL (Option.some.inj e).symm))).trans c5;have yH:ts.length=Dn:=by rw [KI.out,← zX.out]
 obtain ⟨_,_,hH2,_,_⟩:=dS (w':=grow (putRow (Value.int .i64) (Sort.ahead w2 0) g 0 ts.toArray) #[]) hown2 yH rfl ⟨0,#[],rfl⟩;have RZ:=slices_Compact_int g 0 cap ts w2 hH2 (by omega) (by omega);rw [yH] at RZ;have HS2:=hid RZ;have mr:=hid hown2;have HG2:=hid nI;have HT2:=hid yH;clear RZ hown2 nI hH2 yH QH c5
 go_wp2_with fail
 refine HS2.out.mono ?_
 rintro x w3 ⟨rfl,q,hw3⟩;have hcl:=FV ts;obtain ⟨hown3,KN,_,_,_⟩:=dS (w':=w3) mr.out HT2.out (ts:=compact ts++List.replicate (Dn - (compact ts).length) 0) (by rw [List.length_append,List.length_replicate]; have:=HT2.out; omega) ⟨q,#[],by rw [grow_empty]; exact hw3⟩;have hown4:=uU hown3 (k:=(compact ts).length) (by have:=HT2.out; omega);rw [show (lH (compact ts++List.replicate (Dn - (compact ts).length) 0)).take (compact ts).length=lH (compact ts) by simp [lH]] at hown4;have hbz:=Gj.out;have hB2:=dE (dE wH.out HG2.out hgB) KN hgB;have HF:Hid (w3.ownsRow w.heap.size 3 1 (.slice (some ⟨g,0,none⟩) (compact ts).length cap) (compact ts).length (lH (compact ts))∧RowKit.Below w.heap.size w w3):=hid ⟨by
  obtain ⟨h1,h2 | ⟨g',c',cur,h2,h3,h4⟩⟩:=hown4
  ·exact ⟨h1,.inl h2⟩
  ·exact ⟨h1,.inr ⟨g',c',cur,h2,by omega,h4⟩⟩,sW.out.trans (hB2.mono (by omega))⟩
 clear hown3 KN hown4 hw3 hB2 hcl HS2
 go_wp2_with fail
 go_ret
 exact ⟨g,cap,rfl,HF.out.1,HF.out.2⟩
end Go.Proofs.YtmpmfamiegpmgaaGreatDoor
