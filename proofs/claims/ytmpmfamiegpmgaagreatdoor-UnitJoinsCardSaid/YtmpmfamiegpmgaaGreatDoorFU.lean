/-
  each over nodes: a node and all below it are handed on, each ahead of its kids, for any function that takes them.; each over the nodes of a tree that stays as it is; how many nodes there are.
-/
import Derived.Test.YtmpmfamiegpmgaaGreatDoorFF
import Derived.Test.YtmpmfamiegpmgaaGreatDoorFT
namespace Go.Proofs.YtmpmfamiegpmgaaGreatDoor
open Tryz
open Go.Lib (cell_of_heap hid)
open Go.RowKit
set_option maxRecDepth 20000
set_option linter.unusedVariables false
set_option linter.unusedSimpArgs false
theorem aba (args:Array Value) (w:World):Sem.run prog (callFunc 97 args) w=.ok (.enter 97 args) w:=bu func97 (by kernel_rfl) (by kernel_rfl) args w
theorem abw (args:Array Value) (w:World):Sem.run prog (callFunc 98 args) w=.ok (.enter 98 args) w:=bu func98 (by kernel_rfl) (by kernel_rfl) args w
theorem Ap (b o:Nat) (h:Hd) (w:World) (hat:fA w b o h):Calls prog 97 #[.pointer (some ⟨b,o,none⟩)] w fun e w'=>e=.returned (.slice h.kp h.kn h.kc)∧w=w':=by
 obtain ⟨h0,h1,h2,h3,h4,h5⟩:=hat
 go_enter func97,ntmps97
 go_wp2
 go_ret
 exact ⟨rfl,rfl⟩
theorem FX (bx fh:Nat) (ch:Array Value) (a:Addr) (w:World) (Q:World→Prop) (hbx:w.cell? ⟨bx,0,none⟩=some (.func (.func fh) #[] ch)) (hch:∀ args w,Sem.run prog (callFunc fh args) w=.ok (.enter fh args) w)
  (H:Calls prog fh (#[.pointer (some a)]++ch) w fun x w'=>x=.returned (.tuple #[])∧Q w') :
  Calls prog 98 #[.pointer (some a),.pointer (some ⟨bx,0,none⟩)] w fun x w'=>x=.returned (.bool true)∧Q w':=by
 have HH:=hid H;clear H
 go_enter func98,ntmps98
 go_wp2_with fail
 refine HH.out.mono ?_
 rintro x w' ⟨rfl,hq⟩;have HQ:=hid hq;clear hq
 go_wp2_with fail
 go_ret
 exact ⟨rfl,HQ.out⟩
structure jO (P:Nat→Prop) (w w':World):Prop where
 size:w.heap.size≤w'.heap.size
 blk:∀ b,P b→b < w.heap.size→w'.heap[b]?=w.heap[b]?
structure Aq (P:Nat→Prop) (w w':World):Prop where
 os:w'.os=w.os
 tape:w'.tape=w.tape
 output:w'.output=w.output
 size:w.heap.size≤w'.heap.size
 blk:∀ b,b < w.heap.size→¬ P b→w'.heap[b]?=w.heap[b]?
theorem Aq.below {P:Nat→Prop} {b0:Nat} {B w w':World} (h0:b0≤B.heap.size) (hb:Below b0 B w) (h:Aq P w w') (hp:∀ b,P b→b0≤b):Below b0 B w' :=
 ⟨h.os.trans hb.os,h.tape.trans hb.tape,h.output.trans hb.output,Nat.le_trans hb.size h.size,fun j hj=>(h.blk j (Nat.lt_of_lt_of_le hj (Nat.le_trans h0 hb.size)) (fun hc=>absurd (hp j hc) (Nat.not_le.2 hj))).trans (hb.block j hj)⟩
set_option maxHeartbeats 4000000 in
theorem yU {ε:Type} (ad:ε→Addr) (sz:ε→Nat) (hsz:∀ e,1≤sz e) (I:List ε→(Nat→Prop)→World→Prop) (J:ε→List ε→(Nat→Prop)→World→Prop)
  (stab:∀ st P w w' P',I st P w→Aq P w w'→(∀ b,P' b→P b∨w.heap.size≤b)→I st P' w')
  (fh:Nat) (ch:Array Value) (hch:∀ args w,Sem.run prog (callFunc fh args) w=.ok (.enter fh args) w)
  (HH:∀ e st P w,I (e :: st) P w→(∀ b,P b→b < w.heap.size)→Calls prog fh (#[.pointer (some (ad e))]++ch) w fun x w'=>x=.returned (.tuple #[])∧J e st P w'∧jO P w w')
  (HK:∀ e st P w,J e st P w→∃ (b o:Nat) (h:Hd) (kl:List ε),ad e=⟨b,o,none⟩∧fA w b o h∧h.kn=kl.length∧szs sz kl+1≤sz e∧(kl.length=0∨∃ b off,h.kp=some ⟨b,off,none⟩∧kl.length≤h.kc∧∀ i e',kl[i]?=some e'→ad e'=⟨b,off+i * 6,none⟩)∧I (kl++st) P w)
  (e0:ε) (w:World) (hM:sz e0≤10000000) (h0:∀ w' P,Below w.heap.size w w'→(∀ b,P b→w.heap.size≤b)→I [e0] P w') :
  Calls prog 57 #[.pointer (some (ad e0)),.func (.func fh) #[] ch] w fun x w'=>x=.returned (.tuple #[])∧∃ P,I [] P w':=by
 have H:=JH ad sz hsz
  (fun st g w1=>I st (fun b=>b=w.heap.size∨b=g) w1∧w.heap.size≠g∧w1.cell? ⟨w.heap.size,0,none⟩=some (.func (.func fh) #[] ch)∧w.heap.size < w1.heap.size)
  (fun e st g w1=>J e st (fun b=>b=w.heap.size∨b=g) w1∧w.heap.size≠g∧w1.cell? ⟨w.heap.size,0,none⟩=some (.func (.func fh) #[] ch)∧w.heap.size < w1.heap.size)
  (by
   rintro st g w1 w2 g' ⟨h1,h4,h5,h6⟩ hg hg';refine ⟨stab st _ w1 w2 _ h1 ⟨hg.os,hg.tape,hg.output,hg.size,fun b hb hn=>hg.block b hb (fun e=>hn (.inr (Option.some.inj e)))⟩ ?_,?_,?_,Nat.lt_of_lt_of_le h6 hg.size⟩
   ·rintro b (rfl | rfl)
    ·exact .inl (.inl rfl)
    ·rcases hg' with rfl | h
     ·exact .inl (.inr rfl)
     ·exact .inr h
   ·rcases hg' with rfl | h
    ·exact h4
    ·omega
   ·exact (World.cell?_of_block (a:=⟨w.heap.size,0,none⟩) (hg.block w.heap.size h6 (fun e=>h4 (Option.some.inj e)))).trans h5)
  97 98 #[] #[.pointer (some ⟨w.heap.size,0,none⟩)] aba abw
  (by
   rintro e st g w1 ⟨h1,h4,h5,h6⟩ hgl;refine (FX w.heap.size fh ch (ad e) w1 (fun w'=>J e st (fun b=>b=w.heap.size∨b=g) w'∧jO (fun b=>b=w.heap.size∨b=g) w1 w') h5 hch (HH e st _ w1 h1 (by
    rintro b (rfl | rfl)
    ·exact h6
    ·exact hgl))).mono ?_
   rintro x w2 ⟨rfl,h7,h8⟩;exact ⟨rfl,⟨h7,h4,(World.cell?_of_block (a:=⟨w.heap.size,0,none⟩) (h8.blk _ (.inl rfl) h6)).trans h5,Nat.lt_of_lt_of_le h6 h8.size⟩,h8.size,h8.blk _ (.inr rfl) hgl⟩)
  (by
   rintro e st g w1 ⟨h1,h4,h5,h6⟩ hgl;obtain ⟨b,o,h,kl,ha,hat,hkn,hs,hp,hi⟩:=HK e st _ w1 h1;rw [ha];refine (Ap b o h w1 hat).mono ?_
   rintro x w2 ⟨rfl,rfl⟩;exact ⟨h.kp,h.kc,kl,by rw [hkn],hs,hp,⟨hi,h4,h5,h6⟩,Nat.le_refl _,rfl⟩)
  e0 (w.alloc (.cells #[.func (.func fh) #[] ch] 107)) hM
  (by
   intro w1 hb;have hb0:Below w.heap.size w (w.alloc (.cells #[.func (.func fh) #[] ch] 107)):=(Below.refl _ _).alloc (Nat.le_refl _) _;have hz:(w.alloc (.cells #[.func (.func fh) #[] ch] 107)).heap.size=w.heap.size+1:=by simp
   have hbb:Below w.heap.size w w1:=hb0.trans (hb.mono (by omega));refine ⟨h0 w1 _ hbb (by rintro b (rfl | rfl) <;> omega),by omega,?_,by have:=hb.size; omega⟩
   refine (World.cell?_of_block (a:=⟨w.heap.size,0,none⟩) (hb.block w.heap.size (by omega))).trans ?_
   rw [cell_of_heap (heap_alloc_new w _)]; rfl)
 have HC:=hid H;clear H HH HK stab h0 hsz hM
 go_enter func57,ntmps57
 go_wp2_with fail
 refine HC.out.mono ?_
 rintro x w1 ⟨rfl,g,h1,_⟩;have HP:=hid (show ∃ P,I [] P w1 from ⟨_,h1⟩);clear h1
 go_wp2_with fail
 go_returns
 exact ⟨rfl,HP.out⟩
theorem FV (e0:BA) (w0 wS:World) (hg0:e0.Good w0) (hsz:e0.y.flatB.length≤10000000) (fh:Nat) (ch:Array Value) (hch:∀ args w,Sem.run prog (callFunc fh args) w=.ok (.enter fh args) w)
  (A:List Br→(Nat→Prop)→World→Prop)
  (stab:∀ l P w w' P',A l P w→Aq P w w'→(∀ b,P' b→P b∨w.heap.size≤b)→A l P' w')
  (low:∀ l P w,A l P w→Below w0.heap.size w0 w)
  (HW:∀ l (e:BA) r P w,A l P w→(∀ b,P b→b < w.heap.size)→e.Good w0→l++e.y :: r=e0.y.flatB→Calls prog fh (#[.pointer (some e.ad)]++ch) w fun x w'=>x=.returned (.tuple #[])∧A (l++[e.y]) P w'∧jO P w w')
  (h0:∀ w' P,Below wS.heap.size wS w'→(∀ b,P b→wS.heap.size≤b)→A [] P w') :
  Calls prog 57 #[.pointer (some e0.ad),.func (.func fh) #[] ch] wS fun x w'=>x=.returned (.tuple #[])∧∃ P,A e0.y.flatB P w':=by
 have szK:∀ e:BA,szs szB e.kids+1≤szB e:=fun e=>by
  rw [uP,szB,fG,List.length_cons]
  have:(aV (e.kids.map BA.y)).length≤(aV e.y.ks).length:=by
   unfold BA.kids
   cases e.y.h.kp with
   | none=>simp [aV]
   | some a =>
    simp only
    rw [lm];exact Nat.le_refl _
  omega
 refine (yU BA.ad szB (fun e=>mM e.y)
  (fun st P w=>∃ l,A l P w∧l++aV (st.map BA.y)=e0.y.flatB∧∀ e ∈ st,e.Good w0)
  (fun e st P w=>∃ l,A (l++[e.y]) P w∧l++e.y :: (aV e.y.ks++aV (st.map BA.y))=e0.y.flatB∧e.Good w0∧∀ e ∈ st,e.Good w0)
  (fun st P w w' P' ⟨l,h1,h2,h3⟩ h4 h5=>⟨l,stab _ _ _ _ _ h1 h4 h5,h2,h3⟩)
  fh ch hch ?_ ?_ e0 wS hsz (fun w' P hb hp=>⟨[],h0 w' P hb hp,by simp [aV],fun e he=>by rw [List.mem_singleton.1 he]; exact hg0⟩)).mono ?_
 ·rintro e st P w ⟨l,h1,h2,h3⟩ hpb
  have he:=h3 e (by simp);have hx:l++e.y :: (aV e.y.ks++aV (st.map BA.y))=e0.y.flatB:=by
   rw [← h2,List.map_cons,aV,fG]; simp
  refine (HW l e _ P w h1 hpb he hx).mono ?_
  rintro x w' ⟨rfl,h4,h5⟩;exact ⟨rfl,⟨l,h4,hx,he,fun z hz=>h3 z (by simp [hz])⟩,h5⟩
 ·rintro e st P w ⟨l,h1,h2,h3,h4⟩
  have he:=h3.step (low _ _ _ h1);have hkl:=tH e w0 h3;have hkn:e.y.h.kn=e.kids.length:=by
   have:=((dE _ _).1 h3.lies).2.1.1
   omega
  refine ⟨e.b,e.o,e.y.h,e.kids,rfl,he.at_,hkn,szK e,Hm e w0 h3,⟨l++[e.y],h1,?_,?_⟩⟩
  ·rw [List.map_append,lY,xO e w0 h3,← h2]; simp
  ·intro z hz
   rcases List.mem_append.1 hz with hz | hz
   ·exact zI e w0 h3 z hz
   ·exact h4 z hz
 ·rintro x w' ⟨rfl,P,l,h1,h2,_⟩
  simp only [List.map_nil,aV,List.append_nil] at h2;exact ⟨rfl,P,by rw [← h2]; exact h1⟩
theorem MC (nd:Br) (w:World) (h:nd.Lies w) (t:TypeId):BA.Good ⟨nd,w.heap.size,0⟩ (w.alloc (.cells #[.int .i64 nd.h.k,.int .i64 nd.h.m,.int .i64 nd.h.f,.int .i64 nd.h.t,.slice nd.h.np nd.h.nn nd.h.nc,.slice nd.h.kp nd.h.kn nd.h.kc] t)):=by
 have hc:=cell_of_heap (heap_alloc_new w (.cells #[.int .i64 nd.h.k,.int .i64 nd.h.m,.int .i64 nd.h.f,.int .i64 nd.h.t,.slice nd.h.np nd.h.nn nd.h.nc,.slice nd.h.kp nd.h.kn nd.h.kc] t));refine ⟨⟨(hc 0).trans rfl,(hc 1).trans rfl,(hc 2).trans rfl,(hc 3).trans rfl,(hc 4).trans rfl,(hc 5).trans rfl⟩,h.step _ ((Below.refl _ _).alloc (Nat.le_refl _) _),by simp⟩
end Go.Proofs.YtmpmfamiegpmgaaGreatDoor
