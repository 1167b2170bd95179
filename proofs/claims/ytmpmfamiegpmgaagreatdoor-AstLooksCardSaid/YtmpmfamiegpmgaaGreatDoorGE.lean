/-
  The reader's path.; The reader's typePath.
-/
import Derived.Test.YtmpmfamiegpmgaaGreatDoorGC
import Derived.Test.YtmpmfamiegpmgaaGreatDoorGD
import Derived.Deep.AppendLies
import Derived.Deep.LoopGhost
namespace Go.Proofs.YtmpmfamiegpmgaaGreatDoor
open Tryz
open Go.Lib (hid)
open Go.RowKit
set_option maxRecDepth 20000
set_option linter.unusedVariables false
set_option linter.unusedSimpArgs false
abbrev mkN (x:Nat):Value:=.int .i64 (x:Int)
def RL (w0:World):List Nat→Value→World→Prop:=fun l v w'=>w'.ownsRow w0.heap.size 3 1 v l.length (l.map mkN)
theorem RL.form {w0:World} {l:List Nat} {v:Value} {w':World} (h:RL w0 l v w'):∃ p n c,v=.slice p n c:=by
 rcases h.2 with ⟨rfl,_⟩ | ⟨g,c,cur,rfl,_⟩
 ·exact ⟨none,0,0,rfl⟩
 ·exact ⟨_,_,_,rfl⟩
theorem RL.step {w0:World} {l:List Nat} {v:Value} {w w':World} (h:RL w0 l v w) (hb:Below w.heap.size w w'):RL w0 l v w':=ownsRow_below h hb
theorem own_base {w:World} {base base' E size n:Nat} {v:Value} {xs:List Value} (h:w.ownsRow base E size v n xs) (hb:base'≤base):w.ownsRow base' E size v n xs:=by
 refine ⟨h.1,?_⟩
 rcases h.2 with h0 | ⟨g,c,cur,hv,hg,r⟩
 ·exact .inl h0
 ·exact .inr ⟨g,c,cur,hv,Nat.le_trans hb hg,r⟩
theorem dB {w:World} {base g E size n:Nat} {cs:Array Value} (hg:w.heap[g]?=some (.cells cs E (0,0))) (hb:base≤g) (hlen:cs.size=n * size) (hm:n≤maxLen) :
  w.ownsRow base E size (.slice (some ⟨g,0,none⟩) n n) n cs.toList:=by
 refine ⟨by simpa using hlen,.inr ⟨g,n,cs,rfl,hb,hg,Nat.le_refl _,hm,hlen,?_⟩⟩
 rw [← hlen]; exact List.take_of_length_le (by simp)
theorem Lu {S:Src} {ks:List Int}:∀ {f:Nat} {acc p:List Nat} {n m:Nat},S.pathL ks f acc n=.ok p m→n≤m:=by
 intro f
 induction f with
 | zero=>intro acc p n m h; cases h
 | succ f ih =>
  intro acc p n m h;simp only [Src.pathL] at h
  cases hc:(S.kd (n - 1) == 7 && S.is n [46]) <;> rw [hc] at h
  ·simp only [cond_false] at h
   injection h with _ h2
   omega
  ·simp only [cond_true,Src.take] at h
   cases hk:ks.contains (S.kd (n+1)) <;> rw [hk] at h
   ·cases h
   ·have:=ih h
    omega
theorem GG {S:Src} {ks:List Int} {p:List Nat} {n m:Nat} (h:S.path ks n=.ok p m):n+1≤m:=by
 unfold Src.path Src.take at h
 cases hk:ks.contains (S.kd n) <;> rw [hk] at h
 ·cases h
 ·exact Lu h
theorem Rd.grow {w w':World} {S:Src} {n d:Nat} {r:Option Nat} (h:Rd w S n d) (hg:w.grownBy w' r) (h1:r≠some S.g) (h2:r≠some S.gw):Rd w' S n d:=by
 refine ⟨h.good,h.here,(hg.block _ h.lt (fun e=>h1 e.symm)).trans h.box,Nat.lt_of_lt_of_le h.row hg.size,fun i hi=>?_,h.deep⟩
 obtain ⟨t0,t1,t2⟩:=h.toks i hi;have far:∀ o,w'.cell? ⟨S.gw,o,none⟩=w.cell? ⟨S.gw,o,none⟩:=fun o=>World.cell?_of_block (hg.block _ h.row (fun e=>h2 e.symm))
 exact ⟨(far _).trans t0,(far _).trans t1,(far _).trans t2⟩
theorem dm {w w1 w2:World} {g:Nat} {r:Option Nat} (h:w.grownBy w1 (some g)) (hg:w1.grownBy w2 r) (hr:∀ q,r=some q→w.heap.size≤q):w.grownBy w2 (some g) :=
 ⟨hg.os.trans h.os,hg.tape.trans h.tape,hg.output.trans h.output,Nat.le_trans h.size hg.size,fun j hj hn=>(hg.block j (Nat.lt_of_lt_of_le hj h.size) (fun e=>by have:=hr j e.symm; omega)).trans (h.block j hj hn)⟩
set_option maxHeartbeats 8000000 in
theorem oM (S:Src) (n d:Nat) (ks:List Int) (b c:Nat) (w:World) (h:Rd w S n d) (hat:jB w b ks) (hb:b < w.heap.size) (hbg:b≠S.g) (hc:ks.length≤c) (hm:ks.length≤1000) (hz:ks.contains 0=false) (aG:S.path ks n≠.dry) :
  Calls prog 242 #[.pointer (some ⟨S.g,0,none⟩),.slice (some ⟨b,0,none⟩) ks.length c] w fun e w'=>Ends S d w (S.path ks n) (RL w) e w':=by
 obtain ⟨i0,hi0,hy0,hy1,hy2⟩:=info_parts info3;have HT:=hid (fun m w' (hr:Rd w' S m d) (hg:w.grownBy w' (some S.g))=>yx S m d ks b c w' hr (fun i hi=>(World.cell?_of_block (hg.block b hb (fun e=>hbg (Option.some.inj e)))).trans (hat i hi)) (Nat.lt_of_lt_of_le hb hg.size) hc hm hz);have HR:=hid h;have eQ:=hid aG;have hgl:=h.lt;have aW:=h.row;have hlen:=h.good.len;clear h hat hz aG;obtain ⟨tot,htot⟩:∃ tot,tot=S.path ks n:=⟨_,rfl⟩
 rw [← htot] at eQ ⊢;have dW:=hid htot;clear htot;generalize ks.length=nl at *
 go_enter func242,ntmps242
 go_wp2_with fail
 refine (HT.out n w HR.out (dU _ _)).mono ?_
 rintro e w1 (⟨m,n1,v,hpo,rfl,hv,hr,hg⟩ | ⟨ch,ho,rfl,hg⟩)
 ·obtain rfl:v=.int .i64 (m:Int):=hv
  have hn1:n1=n+1∧m=n:=by
   unfold Src.take at hpo
   cases hk:ks.contains (S.kd n) <;> rw [hk] at hpo
   ·cases hpo
   ·simp only [cond_true,Out.ok.injEq] at hpo; omega
  obtain ⟨rfl,rfl⟩:=hn1;have HL:Hid (tot=S.pathL ks S.ts.length [m] (m+1)):=hid (by rw [dW.out]; unfold Src.path; rw [hpo]; rfl);have HR1:Hid (Rd (w1.alloc (.cells #[.int .i64 (m:Int)] 3)) S (m+1) d):=hid (hr.step ((Below.refl _ _).alloc (Nat.le_refl _) _));have zY:Hid (w.grownBy (w1.alloc (.cells #[.int .i64 (m:Int)] 3)) (some S.g)):=hid (ae hg (grown_below ((Below.refl _ _).alloc (Nat.le_refl _) _) _));have Oc:Hid ((w1.alloc (.cells #[.int .i64 (m:Int)] 3)).ownsRow w.heap.size 3 1 (.slice (some ⟨w1.heap.size,0,none⟩) 1 1) 1 [mkN m]):=hid (dB (heap_alloc_new w1 _) hg.size rfl (by unfold maxLen; omega));clear hpo hr hg
  go_wp2_with fail
  go_loopg [5] S.ts.length (fun gk v5 wr=>∃ (acc:List Nat) (i1:Nat) (p5:Option Addr) (c5:Nat),v5=.slice p5 acc.length c5∧acc.length+gk=S.ts.length+1∧Hid (tot=S.pathL ks gk acc (i1+1))∧Hid (wr.ownsRow w.heap.size 3 1 (.slice p5 acc.length c5) acc.length (acc.map mkN))∧Hid (Rd wr S (i1+1) d)∧w.grownBy wr (some S.g))
  case atStart=>exact ⟨[m],m,_,_,rfl,by simp; omega,HL,Oc,HR1,zY.out⟩
  case round =>
   obtain ⟨acc,i1,p5,c5,rfl,hal,HL2,HO,Gf,hgr⟩:=hrel;have qj:=hid hgr;have zZ:=hgr.size;have hl:=Gf.out.here;have hil:i1 < S.ts.length:=by omega
   have HS:∀ W,Below wr.heap.size wr W→W.cell? ⟨S.g,1,none⟩=some (.slice (some ⟨S.gw,0,none⟩) S.ts.length S.cw)∧W.cell? ⟨S.g,2,none⟩=some (.int .i64 ((i1+1:Nat):Int))∧W.cell? ⟨S.gw,i1 * 3,none⟩=some (.int .i64 (S.kd i1)):=fun W hW=>by
    have h1:=Gf.out.step hW;exact ⟨h1.c1,h1.c2,by rw [S.kd_at hil]; exact (h1.toks i1 hil).1⟩
   have hi1:((i1+1:Nat):Int) - 1=(i1:Int):=by omega
   have hwr:IntKind.i64.wrap (i1:Int)=(i1:Int):=IntWalk.i64_in _ (by omega);have hx1:(0:Int)≤(i1:Int):=by omega
   have hx2:(i1:Int) < (S.ts.length:Int):=by omega
   have hsub:i1+1 - 1=i1:=by omega
   clear hgr
   cases gk with
   | zero=>exact absurd HL2.out (by intro e; exact eQ.out e)
   | succ gk =>
   have yz:=HL2.out;simp only [Src.pathL,hsub] at yz;have rC:=hid yz;clear yz HL2
   by_cases hkd:S.kd i1=7
   ·have hkt:(S.kd i1 == 7)=true:=by simp [hkd]
    have GV:=hid (fun W (hW:Below wr.heap.size wr W)=>aC S (i1+1) d ⟨#[46]⟩ W (Gf.out.step hW) (by simp))
    simp only at GV
    cases Om:S.is (i1+1) [46]
    ·rw [Om] at GV
     have iw:Hid (tot=.ok acc (i1+1)):=hid (by rw [rC.out,hkt,Om]; rfl)
     go_wp2_with fail
     refine aY (fun W=>Below wr.heap.size wr W) 15 (by kernel_rfl) ?_
     have hS:Below wr.heap.size wr wr.drew:=(Below.refl wr.heap.size wr).drew;refine dL (N:=34) [(0,.pointer (some ⟨S.g,0,none⟩))] (Fs.of rfl rfl (by simp [Act.eval])) ?_
     intro a0 ha0 hF;refine ax 0 [1,2,3,9,10,11,12,13,14,15,16] (oi:=⟨some 10,.move (.tmp 0),143,"parse.go:103",#[],none⟩) (d:=10) (v:=.pointer (some ⟨S.g,0,none⟩)) hF hS rfl rfl (by decide) (by kernel_rfl) (by kernel_rfl) (by kernel_rfl) (by kernel_rfl) (fun _ _ _ h=>h) (fun a' hA=>ag rfl) (aF rfl rfl) ?_
     clear hF;intro hF;refine ax 1 [2,3,9,10,11,12,13,14,15,16] (oi:=⟨some 11,.nilCheck (.tmp 10),0,"parse.go:103",#[⟨0,.data⟩],none⟩) (d:=11) (v:=.pointer (some ⟨S.g,0,none⟩)) hF hS rfl rfl (by decide) (by kernel_rfl) (by kernel_rfl) (by kernel_rfl) (by kernel_rfl) (fun _ _ _ h=>h) (fun a' hA=>ag rfl) (fun a' hA w' hw=>by have e10:=hA.get 10 rfl; have ec:∀ v,a'.eval (.const v)=v:=fun _=>rfl; clear hA; generalize a'.eval=ρ at *; simp [go_sem,ec,e10]; try rfl) ?_
     clear hF;intro hF;refine ax 2 [3,9,10,11,12,13,14,15,16] (oi:=⟨some 12,.fieldAddr 197 (.tmp 11) 1,0,"parse.go:103",#[⟨1,.data⟩],none⟩) (d:=12) (v:=.pointer (some ⟨S.g,1,none⟩)) hF hS rfl rfl (by decide) (by kernel_rfl) (by kernel_rfl) (by kernel_rfl) (by kernel_rfl) (fun _ _ _ h=>h) (fun a' hA=>ag rfl) (fun a' hA w' hw=>by have e11:=hA.get 11 rfl; have ec:∀ v,a'.eval (.const v)=v:=fun _=>rfl; clear hA; generalize a'.eval=ρ at *; simp [go_sem,ec,e11]; try rfl) ?_
     clear hF;intro hF;refine ax 3 [9,10,11,12,13,14,15,16] (oi:=⟨some 13,.load 50 (.tmp 12),50,"parse.go:103",#[⟨2,.data⟩],none⟩) (d:=13) (v:=.slice (some ⟨S.gw,0,none⟩) S.ts.length S.cw) hF hS rfl rfl (by decide) (by kernel_rfl) (by kernel_rfl) (by kernel_rfl) (by kernel_rfl) (fun _ _ _ h=>h) (fun a' hA=>ag rfl) (fun a' hA w' hw=>by have e12:=hA.get 12 rfl; have ec:∀ v,a'.eval (.const v)=v:=fun _=>rfl; obtain ⟨q1,q2,q3⟩:=HS _ hw; clear hA; generalize a'.eval=ρ at *; simp [go_sem,ec,e12,q1]; try rfl) ?_
     clear hF;intro hF;refine ax 4 [5,6,7,8,9,10,11,12,13,14,15,16] (oi:=⟨some 14,.move (.tmp 0),143,"parse.go:103",#[],none⟩) (d:=14) (v:=.pointer (some ⟨S.g,0,none⟩)) hF hS rfl rfl (by decide) (by kernel_rfl) (by kernel_rfl) (by kernel_rfl) (by kernel_rfl) (fun _ _ _ h=>h) (fun a' hA=>ag rfl) (aF rfl rfl) ?_
     clear hF;intro hF;refine ax 5 [6,7,8,9,10,11,12,13,14,15,16] (oi:=⟨some 15,.nilCheck (.tmp 14),0,"parse.go:103",#[⟨4,.data⟩],none⟩) (d:=15) (v:=.pointer (some ⟨S.g,0,none⟩)) hF hS rfl rfl (by decide) (by kernel_rfl) (by kernel_rfl) (by kernel_rfl) (by kernel_rfl) (fun _ _ _ h=>h) (fun a' hA=>ag rfl) (fun a' hA w' hw=>by have e14:=hA.get 14 rfl; have ec:∀ v,a'.eval (.const v)=v:=fun _=>rfl; clear hA; generalize a'.eval=ρ at *; simp [go_sem,ec,e14]; try rfl) ?_
     clear hF;intro hF;refine ax 6 [7,8,9,10,11,12,13,14,15,16] (oi:=⟨some 16,.fieldAddr 197 (.tmp 15) 2,0,"parse.go:103",#[⟨5,.data⟩],none⟩) (d:=16) (v:=.pointer (some ⟨S.g,2,none⟩)) hF hS rfl rfl (by decide) (by kernel_rfl) (by kernel_rfl) (by kernel_rfl) (by kernel_rfl) (fun _ _ _ h=>h) (fun a' hA=>ag rfl) (fun a' hA w' hw=>by have e15:=hA.get 15 rfl; have ec:∀ v,a'.eval (.const v)=v:=fun _=>rfl; clear hA; generalize a'.eval=ρ at *; simp [go_sem,ec,e15]; try rfl) ?_
     clear hF;intro hF;refine ax 7 [8,9,10,11,12,13,14,15,16] (oi:=⟨some 17,.load 3 (.tmp 16),3,"parse.go:103",#[⟨6,.data⟩],none⟩) (d:=17) (v:=.int .i64 ((i1+1:Nat):Int)) hF hS rfl rfl (by decide) (by kernel_rfl) (by kernel_rfl) (by kernel_rfl) (by kernel_rfl) (fun _ _ _ h=>h) (fun a' hA=>ag rfl) (fun a' hA w' hw=>by have e16:=hA.get 16 rfl; have ec:∀ v,a'.eval (.const v)=v:=fun _=>rfl; obtain ⟨q1,q2,q3⟩:=HS _ hw; clear hA; generalize a'.eval=ρ at *; simp [go_sem,ec,e16,q2]; try rfl) ?_
     clear hF;intro hF;refine ax 8 [9,10,11,12,13,14,15,16] (oi:=⟨some 18,.binOp .sub 3 (.tmp 17) (.const (.int .i64 1)) 3,3,"parse.go:103",#[⟨7,.data⟩],none⟩) (d:=18) (v:=.int .i64 (i1:Int)) hF hS rfl rfl (by decide) (by kernel_rfl) (by kernel_rfl) (by kernel_rfl) (by kernel_rfl) (fun _ _ _ h=>h) (fun a' hA=>ag rfl) (fun a' hA w' hw=>by have e17:=hA.get 17 rfl; have ec:∀ v,a'.eval (.const v)=v:=fun _=>rfl; clear hA; generalize a'.eval=ρ at *; simp [go_sem,ec,e17,hi1,hwr]; try rfl) ?_
     clear hF;intro hF;refine ax 9 [10,11,12,13,14,15,16] (oi:=⟨some 19,.indexAddr 50 (.tmp 13) (.tmp 18),0,"parse.go:103",#[⟨3,.data⟩,⟨8,.data⟩],none⟩) (d:=19) (v:=.pointer (some ⟨S.gw,i1 * 3,none⟩)) hF hS rfl rfl (by decide) (by kernel_rfl) (by kernel_rfl) (by kernel_rfl) (by kernel_rfl) (fun _ _ _ h=>h) (fun a' hA=>ag rfl) (fun a' hA w' hw=>by have e13:=hA.get 13 rfl; have e18:=hA.get 18 rfl; have ec:∀ v,a'.eval (.const v)=v:=fun _=>rfl; clear hA; generalize a'.eval=ρ at *; simp [go_sem,ec,e13,e18,hx1,hx2]; try rfl) ?_
     clear hF;intro hF;refine ax 10 [11,12,13,14,15,16] (oi:=⟨some 20,.fieldAddr 119 (.tmp 19) 0,0,"parse.go:103",#[⟨9,.data⟩],none⟩) (d:=20) (v:=.pointer (some ⟨S.gw,i1 * 3,none⟩)) hF hS rfl rfl (by decide) (by kernel_rfl) (by kernel_rfl) (by kernel_rfl) (by kernel_rfl) (fun _ _ _ h=>h) (fun a' hA=>ag rfl) (fun a' hA w' hw=>by have e19:=hA.get 19 rfl; have ec:∀ v,a'.eval (.const v)=v:=fun _=>rfl; clear hA; generalize a'.eval=ρ at *; simp [go_sem,ec,e19]; try rfl) ?_
     clear hF;intro hF;refine ax 11 [12,13,14,15,16] (oi:=⟨some 21,.load 3 (.tmp 20),3,"parse.go:103",#[⟨10,.data⟩],none⟩) (d:=21) (v:=.int .i64 (S.kd i1)) hF hS rfl rfl (by decide) (by kernel_rfl) (by kernel_rfl) (by kernel_rfl) (by kernel_rfl) (fun _ _ _ h=>h) (fun a' hA=>ag rfl) (fun a' hA w' hw=>by have e20:=hA.get 20 rfl; have ec:∀ v,a'.eval (.const v)=v:=fun _=>rfl; obtain ⟨q1,q2,q3⟩:=HS _ hw; clear hA; generalize a'.eval=ρ at *; simp [go_sem,ec,e20,q3]; try rfl) ?_
     clear hF;intro hF;refine ax 12 [13,14,15,16] (oi:=⟨some 22,.binOp .eql 3 (.tmp 21) (.const (.int .i64 7)) 3,4,"parse.go:103",#[⟨11,.data⟩],none⟩) (d:=22) (v:=.bool true) hF hS rfl rfl (by decide) (by kernel_rfl) (by kernel_rfl) (by kernel_rfl) (by kernel_rfl) (fun _ _ _ h=>h) (fun a' hA=>ag rfl) (fun a' hA w' hw=>by have e21:=hA.get 21 rfl; have ec:∀ v,a'.eval (.const v)=v:=fun _=>rfl; clear hA; generalize a'.eval=ρ at *; simp [go_sem,ec,e21,hkd]; try rfl) ?_
     clear hF;intro hF;refine ax 13 [14,15,16] (oi:=⟨some 23,.move (.tmp 22),4,"parse.go:103",#[⟨12,.data⟩],none⟩) (d:=23) (v:=.bool true) hF hS rfl rfl (by decide) (by kernel_rfl) (by kernel_rfl) (by kernel_rfl) (by kernel_rfl) (fun _ _ _ h=>h) (fun a' hA=>ag rfl) (aF rfl rfl) ?_
     clear hF;intro hF;refine ax 14 [15,16] (oi:=⟨some 24,.move (.tmp 0),143,"parse.go:103",#[⟨13,.guard⟩],some (13,true)⟩) (d:=24) (v:=.pointer (some ⟨S.g,0,none⟩)) hF hS rfl rfl (by decide) (by kernel_rfl) (by kernel_rfl) (by kernel_rfl) (by kernel_rfl) (fun _ _ _ h=>h) (fun a' hA=>hA.wantedB (j:=13) (dj:=23) (b:=true) rfl (by kernel_rfl) (by decide) rfl) (aF rfl rfl) ?_
     clear hF;intro hF;refine lh 15 (oi:=⟨some 25,.call ⟨.value (.func 172),#[.tmp 24,.const (.string { data:=#[46] })],#[143,9]⟩,4,"parse.go:103",#[⟨14,.data⟩,⟨13,.chain⟩,⟨13,.guard⟩],some (13,true)⟩) (d:=25) (R:=fun e w'=>e=.returned (.bool false)∧Rd w' S (i1+1) d∧wr.drew.grownBy w' (some S.g)) hF rfl rfl (by decide) (by kernel_rfl) (fun a' hA=>hA.wantedB (j:=13) (dj:=23) (b:=true) rfl (by kernel_rfl) (by decide) rfl) (fun a' hA=>by have e24:=hA.get 24 rfl; have ef:∀ f,a'.eval (.func f)=.func (.func f) #[] #[]:=fun _=>rfl; have ec:∀ v,a'.eval (.const v)=v:=fun _=>rfl; clear hA; generalize a'.eval=ρ at *; simp [go_sem,ef,ec,e24]) (GV.out _ hS) (by rintro w' ⟨h,_⟩; cases h) ?_ ?_
     ·rintro ch w' ⟨h,_⟩
      cases h
     rintro v w3 ⟨h,hr3,hg3⟩
     injection h with h
     subst h;have HR3:=hid hr3;have iQ:Hid (wr.grownBy w3 (some S.g)):=hid (ae (grown_below hS _) hg3);clear hr3 hg3;refine ⟨fun h=>absurd h (by decide),?_⟩
     clear hF;intro hF;refine EI 16 (oi:=⟨some 26,.pick (.tmp 23) (.tmp 25) (.const (.bool false)),4,"parse.go:103",#[⟨13,.data⟩,⟨15,.data⟩],none⟩) (d:=26) (v:=.bool false) hF rfl rfl (by decide) (by kernel_rfl) (by kernel_rfl) (fun a' hA=>ag rfl) (fun a' hA=>by have e23:=hA.get 23 rfl; have e25:=hA.get 25 rfl; have ec:∀ v,a'.eval (.const v)=v:=fun _=>rfl; clear hA; generalize a'.eval=ρ at *; simp [go_sem,ec,e23,e25]; try rfl) ?_
     clear hF;intro hF;refine bu (by kernel_rfl) ?_ _
     subst ha0;simp only [Act.put,List.setIfInBounds_toArray,List.set_cons_zero,List.set_cons_succ];clear hF;have wF:=hid (HO.out.kept iQ.out (Or.inr (fun e=>by have:=(HO.out.lt _ e).1; omega)))
     go_wp2_with fail
     go_ret
     exact Or.inl ⟨acc,i1+1,_,iw.out,rfl,wF.out,HR3.out,ae qj.out iQ.out⟩
    ·rw [Om] at GV
     have iw:Hid (tot=(S.take ks (i1+1+1)).bind fun m n'=>S.pathL ks gk (acc++[m]) n'):=hid (by rw [rC.out,hkt,Om]; rfl)
     go_wp2_with fail
     refine aY (fun W=>Below wr.heap.size wr W) 15 (by kernel_rfl) ?_
     have hS:Below wr.heap.size wr wr.drew:=(Below.refl wr.heap.size wr).drew;refine dL (N:=34) [(0,.pointer (some ⟨S.g,0,none⟩))] (Fs.of rfl rfl (by simp [Act.eval])) ?_
     intro a0 ha0 hF;refine ax 0 [1,2,3,9,10,11,12,13,14,15,16] (oi:=⟨some 10,.move (.tmp 0),143,"parse.go:103",#[],none⟩) (d:=10) (v:=.pointer (some ⟨S.g,0,none⟩)) hF hS rfl rfl (by decide) (by kernel_rfl) (by kernel_rfl) (by kernel_rfl) (by kernel_rfl) (fun _ _ _ h=>h) (fun a' hA=>ag rfl) (aF rfl rfl) ?_
     clear hF;intro hF;refine ax 1 [2,3,9,10,11,12,13,14,15,16] (oi:=⟨some 11,.nilCheck (.tmp 10),0,"parse.go:103",#[⟨0,.data⟩],none⟩) (d:=11) (v:=.pointer (some ⟨S.g,0,none⟩)) hF hS rfl rfl (by decide) (by kernel_rfl) (by kernel_rfl) (by kernel_rfl) (by kernel_rfl) (fun _ _ _ h=>h) (fun a' hA=>ag rfl) (fun a' hA w' hw=>by have e10:=hA.get 10 rfl; have ec:∀ v,a'.eval (.const v)=v:=fun _=>rfl; clear hA; generalize a'.eval=ρ at *; simp [go_sem,ec,e10]; try rfl) ?_
     clear hF;intro hF;refine ax 2 [3,9,10,11,12,13,14,15,16] (oi:=⟨some 12,.fieldAddr 197 (.tmp 11) 1,0,"parse.go:103",#[⟨1,.data⟩],none⟩) (d:=12) (v:=.pointer (some ⟨S.g,1,none⟩)) hF hS rfl rfl (by decide) (by kernel_rfl) (by kernel_rfl) (by kernel_rfl) (by kernel_rfl) (fun _ _ _ h=>h) (fun a' hA=>ag rfl) (fun a' hA w' hw=>by have e11:=hA.get 11 rfl; have ec:∀ v,a'.eval (.const v)=v:=fun _=>rfl; clear hA; generalize a'.eval=ρ at *; simp [go_sem,ec,e11]; try rfl) ?_
     clear hF;intro hF;refine ax 3 [9,10,11,12,13,14,15,16] (oi:=⟨some 13,.load 50 (.tmp 12),50,"parse.go:103",#[⟨2,.data⟩],none⟩) (d:=13) (v:=.slice (some ⟨S.gw,0,none⟩) S.ts.length S.cw) hF hS rfl rfl (by decide) (by kernel_rfl) (by kernel_rfl) (by kernel_rfl) (by kernel_rfl) (fun _ _ _ h=>h) (fun a' hA=>ag rfl) (fun a' hA w' hw=>by have e12:=hA.get 12 rfl; have ec:∀ v,a'.eval (.const v)=v:=fun _=>rfl; obtain ⟨q1,q2,q3⟩:=HS _ hw; clear hA; generalize a'.eval=ρ at *; simp [go_sem,ec,e12,q1]; try rfl) ?_
     clear hF;intro hF;refine ax 4 [5,6,7,8,9,10,11,12,13,14,15,16] (oi:=⟨some 14,.move (.tmp 0),143,"parse.go:103",#[],none⟩) (d:=14) (v:=.pointer (some ⟨S.g,0,none⟩)) hF hS rfl rfl (by decide) (by kernel_rfl) (by kernel_rfl) (by kernel_rfl) (by kernel_rfl) (fun _ _ _ h=>h) (fun a' hA=>ag rfl) (aF rfl rfl) ?_
     clear hF;intro hF;refine ax 5 [6,7,8,9,10,11,12,13,14,15,16] (oi:=⟨some 15,.nilCheck (.tmp 14),0,"parse.go:103",#[⟨4,.data⟩],none⟩) (d:=15) (v:=.pointer (some ⟨S.g,0,none⟩)) hF hS rfl rfl (by decide) (by kernel_rfl) (by kernel_rfl) (by kernel_rfl) (by kernel_rfl) (fun _ _ _ h=>h) (fun a' hA=>ag rfl) (fun a' hA w' hw=>by have e14:=hA.get 14 rfl; have ec:∀ v,a'.eval (.const v)=v:=fun _=>rfl; clear hA; generalize a'.eval=ρ at *; simp [go_sem,ec,e14]; try rfl) ?_
     clear hF;intro hF;refine ax 6 [7,8,9,10,11,12,13,14,15,16] (oi:=⟨some 16,.fieldAddr 197 (.tmp 15) 2,0,"parse.go:103",#[⟨5,.data⟩],none⟩) (d:=16) (v:=.pointer (some ⟨S.g,2,none⟩)) hF hS rfl rfl (by decide) (by kernel_rfl) (by kernel_rfl) (by kernel_rfl) (by kernel_rfl) (fun _ _ _ h=>h) (fun a' hA=>ag rfl) (fun a' hA w' hw=>by have e15:=hA.get 15 rfl; have ec:∀ v,a'.eval (.const v)=v:=fun _=>rfl; clear hA; generalize a'.eval=ρ at *; simp [go_sem,ec,e15]; try rfl) ?_
     clear hF;intro hF;refine ax 7 [8,9,10,11,12,13,14,15,16] (oi:=⟨some 17,.load 3 (.tmp 16),3,"parse.go:103",#[⟨6,.data⟩],none⟩) (d:=17) (v:=.int .i64 ((i1+1:Nat):Int)) hF hS rfl rfl (by decide) (by kernel_rfl) (by kernel_rfl) (by kernel_rfl) (by kernel_rfl) (fun _ _ _ h=>h) (fun a' hA=>ag rfl) (fun a' hA w' hw=>by have e16:=hA.get 16 rfl; have ec:∀ v,a'.eval (.const v)=v:=fun _=>rfl; obtain ⟨q1,q2,q3⟩:=HS _ hw; clear hA; generalize a'.eval=ρ at *; simp [go_sem,ec,e16,q2]; try rfl) ?_
     clear hF;intro hF;refine ax 8 [9,10,11,12,13,14,15,16] (oi:=⟨some 18,.binOp .sub 3 (.tmp 17) (.const (.int .i64 1)) 3,3,"parse.go:103",#[⟨7,.data⟩],none⟩) (d:=18) (v:=.int .i64 (i1:Int)) hF hS rfl rfl (by decide) (by kernel_rfl) (by kernel_rfl) (by kernel_rfl) (by kernel_rfl) (fun _ _ _ h=>h) (fun a' hA=>ag rfl) (fun a' hA w' hw=>by have e17:=hA.get 17 rfl; have ec:∀ v,a'.eval (.const v)=v:=fun _=>rfl; clear hA; generalize a'.eval=ρ at *; simp [go_sem,ec,e17,hi1,hwr]; try rfl) ?_
     clear hF;intro hF;refine ax 9 [10,11,12,13,14,15,16] (oi:=⟨some 19,.indexAddr 50 (.tmp 13) (.tmp 18),0,"parse.go:103",#[⟨3,.data⟩,⟨8,.data⟩],none⟩) (d:=19) (v:=.pointer (some ⟨S.gw,i1 * 3,none⟩)) hF hS rfl rfl (by decide) (by kernel_rfl) (by kernel_rfl) (by kernel_rfl) (by kernel_rfl) (fun _ _ _ h=>h) (fun a' hA=>ag rfl) (fun a' hA w' hw=>by have e13:=hA.get 13 rfl; have e18:=hA.get 18 rfl; have ec:∀ v,a'.eval (.const v)=v:=fun _=>rfl; clear hA; generalize a'.eval=ρ at *; simp [go_sem,ec,e13,e18,hx1,hx2]; try rfl) ?_
     clear hF;intro hF;refine ax 10 [11,12,13,14,15,16] (oi:=⟨some 20,.fieldAddr 119 (.tmp 19) 0,0,"parse.go:103",#[⟨9,.data⟩],none⟩) (d:=20) (v:=.pointer (some ⟨S.gw,i1 * 3,none⟩)) hF hS rfl rfl (by decide) (by kernel_rfl) (by kernel_rfl) (by kernel_rfl) (by kernel_rfl) (fun _ _ _ h=>h) (fun a' hA=>ag rfl) (fun a' hA w' hw=>by have e19:=hA.get 19 rfl; have ec:∀ v,a'.eval (.const v)=v:=fun _=>rfl; clear hA; generalize a'.eval=ρ at *; simp [go_sem,ec,e19]; try rfl) ?_
     clear hF;intro hF;refine ax 11 [12,13,14,15,16] (oi:=⟨some 21,.load 3 (.tmp 20),3,"parse.go:103",#[⟨10,.data⟩],none⟩) (d:=21) (v:=.int .i64 (S.kd i1)) hF hS rfl rfl (by decide) (by kernel_rfl) (by kernel_rfl) (by kernel_rfl) (by kernel_rfl) (fun _ _ _ h=>h) (fun a' hA=>ag rfl) (fun a' hA w' hw=>by have e20:=hA.get 20 rfl; have ec:∀ v,a'.eval (.const v)=v:=fun _=>rfl; obtain ⟨q1,q2,q3⟩:=HS _ hw; clear hA; generalize a'.eval=ρ at *; simp [go_sem,ec,e20,q3]; try rfl) ?_
     clear hF;intro hF;refine ax 12 [13,14,15,16] (oi:=⟨some 22,.binOp .eql 3 (.tmp 21) (.const (.int .i64 7)) 3,4,"parse.go:103",#[⟨11,.data⟩],none⟩) (d:=22) (v:=.bool true) hF hS rfl rfl (by decide) (by kernel_rfl) (by kernel_rfl) (by kernel_rfl) (by kernel_rfl) (fun _ _ _ h=>h) (fun a' hA=>ag rfl) (fun a' hA w' hw=>by have e21:=hA.get 21 rfl; have ec:∀ v,a'.eval (.const v)=v:=fun _=>rfl; clear hA; generalize a'.eval=ρ at *; simp [go_sem,ec,e21,hkd]; try rfl) ?_
     clear hF;intro hF;refine ax 13 [14,15,16] (oi:=⟨some 23,.move (.tmp 22),4,"parse.go:103",#[⟨12,.data⟩],none⟩) (d:=23) (v:=.bool true) hF hS rfl rfl (by decide) (by kernel_rfl) (by kernel_rfl) (by kernel_rfl) (by kernel_rfl) (fun _ _ _ h=>h) (fun a' hA=>ag rfl) (aF rfl rfl) ?_
     clear hF;intro hF;refine ax 14 [15,16] (oi:=⟨some 24,.move (.tmp 0),143,"parse.go:103",#[⟨13,.guard⟩],some (13,true)⟩) (d:=24) (v:=.pointer (some ⟨S.g,0,none⟩)) hF hS rfl rfl (by decide) (by kernel_rfl) (by kernel_rfl) (by kernel_rfl) (by kernel_rfl) (fun _ _ _ h=>h) (fun a' hA=>hA.wantedB (j:=13) (dj:=23) (b:=true) rfl (by kernel_rfl) (by decide) rfl) (aF rfl rfl) ?_
     clear hF;intro hF;refine lh 15 (oi:=⟨some 25,.call ⟨.value (.func 172),#[.tmp 24,.const (.string { data:=#[46] })],#[143,9]⟩,4,"parse.go:103",#[⟨14,.data⟩,⟨13,.chain⟩,⟨13,.guard⟩],some (13,true)⟩) (d:=25) (R:=fun e w'=>e=.returned (.bool true)∧Rd w' S (i1+1+1) d∧wr.drew.grownBy w' (some S.g)) hF rfl rfl (by decide) (by kernel_rfl) (fun a' hA=>hA.wantedB (j:=13) (dj:=23) (b:=true) rfl (by kernel_rfl) (by decide) rfl) (fun a' hA=>by have e24:=hA.get 24 rfl; have ef:∀ f,a'.eval (.func f)=.func (.func f) #[] #[]:=fun _=>rfl; have ec:∀ v,a'.eval (.const v)=v:=fun _=>rfl; clear hA; generalize a'.eval=ρ at *; simp [go_sem,ef,ec,e24]) (GV.out _ hS) (by rintro w' ⟨h,_⟩; cases h) ?_ ?_
     ·rintro ch w' ⟨h,_⟩
      cases h
     rintro v w3 ⟨h,hr3,hg3⟩
     injection h with h
     subst h;have HR3:=hid hr3;have iQ:Hid (wr.grownBy w3 (some S.g)):=hid (ae (grown_below hS _) hg3);clear hr3 hg3;refine ⟨fun h=>absurd h (by decide),?_⟩
     clear hF;intro hF;refine EI 16 (oi:=⟨some 26,.pick (.tmp 23) (.tmp 25) (.const (.bool false)),4,"parse.go:103",#[⟨13,.data⟩,⟨15,.data⟩],none⟩) (d:=26) (v:=.bool true) hF rfl rfl (by decide) (by kernel_rfl) (by kernel_rfl) (fun a' hA=>ag rfl) (fun a' hA=>by have e23:=hA.get 23 rfl; have e25:=hA.get 25 rfl; have ec:∀ v,a'.eval (.const v)=v:=fun _=>rfl; clear hA; generalize a'.eval=ρ at *; simp [go_sem,ec,e23,e25]; try rfl) ?_
     clear hF;intro hF;refine bu (by kernel_rfl) ?_ _
     subst ha0;simp only [Act.put,List.setIfInBounds_toArray,List.set_cons_zero,List.set_cons_succ];clear hF;have wF:=hid (HO.out.kept iQ.out (Or.inr (fun e=>by have:=(HO.out.lt _ e).1; omega)));have WY:=hid (ae qj.out iQ.out);have HX:=hid (HT.out (i1+1+1) w3 HR3.out WY.out);clear iQ
     go_wp2_with fail
     refine HX.out.mono ?_
     rintro e w4 (⟨m2,n2,v2,GX,rfl,hv2,hr2,hg2⟩ | ⟨ch,ho,rfl,hg2⟩)
     ·obtain rfl:v2=.int .i64 (m2:Int):=hv2
      have hn2:n2=i1+1+1+1:=by
       unfold Src.take at GX
       cases hk:ks.contains (S.kd (i1+1+1)) <;> rw [hk] at GX
       ·cases GX
       ·simp only [cond_true,Out.ok.injEq] at GX; omega
      subst hn2;have Ul:Hid (tot=S.pathL ks gk (acc++[m2]) (i1+1+1+1)):=hid (by rw [iw.out,GX]; rfl);have hO4:=wF.out.kept hg2 (Or.inr (fun e=>by have:=(wF.out.lt _ e).1; omega));have Qr:(w4.alloc (.cells #[.int .i64 (m2:Int)] 3)).ownsRow w.heap.size 3 1 (.slice p5 acc.length c5) acc.length (acc.map mkN):=ownsRow_below hO4 ((Below.refl _ _).alloc (Nat.le_refl _) _);have jS:=hid Qr;have jP:Hid (Rd (w4.alloc (.cells #[.int .i64 (m2:Int)] 3)) S (i1+1+1+1) d):=hid (hr2.step ((Below.refl _ _).alloc (Nat.le_refl _) _));have nK:Hid (w.grownBy (w4.alloc (.cells #[.int .i64 (m2:Int)] 3)) (some S.g)):=hid (ae (ae WY.out hg2) (grown_below ((Below.refl _ _).alloc (Nat.le_refl _) _) _));have WZ:=hid (World.news_of_block (heap_alloc_new w4 (.cells #[.int .i64 (m2:Int)] 3)));have yA:=hid (fun q hq=>(jS.out.lt q hq).1);have Qs:w.heap.size≤w4.heap.size:=by have:=nK.out.size; have h2:=(ae WY.out hg2).size; exact h2
      clear GX hr2 hg2 hO4 Qr;generalize Aa:acc.length=al at *;have JU:=hid Aa;clear Aa
      go_wp2_with (at_builtin; refine wpList_append_own _ rfl _ _ 23 rfl w.heap.size 3 i0 _ 1 8 underlying23 hi0 hy0 hy1 hy2 rfl (by omega) _ al _ rfl jS.out ⟨w4.heap.size,0,none⟩ 1 1 [.int .i64 (m2:Int)] rfl rfl WZ.out (by simp [Value.oneCell']) (by unfold maxLen; omega) (by omega) (by simp; omega) ?_)
      intro v6 w6 hown6 hgrow6 _;have hform:∃ p c,v6=.slice p (al+1) c:=by
       rcases hown6.2 with ⟨_,h0⟩ | ⟨g,c,cur,hv,_⟩
       ·omega
       ·exact ⟨_,c,hv⟩
      obtain ⟨p6,c6,rfl⟩:=hform;have hall:(acc++[m2]).length=al+1:=by simp [JU.out]
      have Z8:w6.ownsRow w.heap.size 3 1 (.slice p6 (acc++[m2]).length c6) (acc++[m2]).length ((acc++[m2]).map mkN):=by
       rw [hall,List.map_append]; exact hown6
      have Um:=hid Z8;have qm:Hid (Rd w6 S (i1+1+1+1) d):=hid (jP.out.grow hgrow6 (fun e=>by have:=yA.out _ e; omega) (fun e=>by have:=yA.out _ e; omega));have Ac:=hid (dm nK.out hgrow6 yA.out);clear hown6 hgrow6 Z8
      go_wp2_with fail
      go_roundg gk
      case measure=>omega
      case rel=>exact ⟨acc++[m2],i1+1+1,p6,c6,by rw [hall],by rw [hall]; omega,Ul,Um,qm,Ac.out⟩
     ·exact ⟨rfl,Or.inr ⟨ch,by rw [iw.out]; exact ai ho,rfl,ae WY.out hg2⟩⟩
   ·have hkf:(S.kd i1 == 7)=false:=by simp [hkd]
    have iw:Hid (tot=.ok acc (i1+1)):=hid (by rw [rC.out,hkf]; rfl)
    go_wp2_with fail
    refine aY (fun W=>Below wr.heap.size wr W) 16 (by kernel_rfl) ?_
    have hS:Below wr.heap.size wr wr.drew:=(Below.refl wr.heap.size wr).drew;refine dL (N:=34) [(0,.pointer (some ⟨S.g,0,none⟩))] (Fs.of rfl rfl (by simp [Act.eval])) ?_
    intro a0 ha0 hF;refine ax 0 [1,2,3,9,10,11,12,13,14,15,16] (oi:=⟨some 10,.move (.tmp 0),143,"parse.go:103",#[],none⟩) (d:=10) (v:=.pointer (some ⟨S.g,0,none⟩)) hF hS rfl rfl (by decide) (by kernel_rfl) (by kernel_rfl) (by kernel_rfl) (by kernel_rfl) (fun _ _ _ h=>h) (fun a' hA=>ag rfl) (aF rfl rfl) ?_
    clear hF;intro hF;refine ax 1 [2,3,9,10,11,12,13,14,15,16] (oi:=⟨some 11,.nilCheck (.tmp 10),0,"parse.go:103",#[⟨0,.data⟩],none⟩) (d:=11) (v:=.pointer (some ⟨S.g,0,none⟩)) hF hS rfl rfl (by decide) (by kernel_rfl) (by kernel_rfl) (by kernel_rfl) (by kernel_rfl) (fun _ _ _ h=>h) (fun a' hA=>ag rfl) (fun a' hA w' hw=>by have e10:=hA.get 10 rfl; have ec:∀ v,a'.eval (.const v)=v:=fun _=>rfl; clear hA; generalize a'.eval=ρ at *; simp [go_sem,ec,e10]; try rfl) ?_
    clear hF;intro hF;refine ax 2 [3,9,10,11,12,13,14,15,16] (oi:=⟨some 12,.fieldAddr 197 (.tmp 11) 1,0,"parse.go:103",#[⟨1,.data⟩],none⟩) (d:=12) (v:=.pointer (some ⟨S.g,1,none⟩)) hF hS rfl rfl (by decide) (by kernel_rfl) (by kernel_rfl) (by kernel_rfl) (by kernel_rfl) (fun _ _ _ h=>h) (fun a' hA=>ag rfl) (fun a' hA w' hw=>by have e11:=hA.get 11 rfl; have ec:∀ v,a'.eval (.const v)=v:=fun _=>rfl; clear hA; generalize a'.eval=ρ at *; simp [go_sem,ec,e11]; try rfl) ?_
    clear hF;intro hF;refine ax 3 [9,10,11,12,13,14,15,16] (oi:=⟨some 13,.load 50 (.tmp 12),50,"parse.go:103",#[⟨2,.data⟩],none⟩) (d:=13) (v:=.slice (some ⟨S.gw,0,none⟩) S.ts.length S.cw) hF hS rfl rfl (by decide) (by kernel_rfl) (by kernel_rfl) (by kernel_rfl) (by kernel_rfl) (fun _ _ _ h=>h) (fun a' hA=>ag rfl) (fun a' hA w' hw=>by have e12:=hA.get 12 rfl; have ec:∀ v,a'.eval (.const v)=v:=fun _=>rfl; obtain ⟨q1,q2,q3⟩:=HS _ hw; clear hA; generalize a'.eval=ρ at *; simp [go_sem,ec,e12,q1]; try rfl) ?_
    clear hF;intro hF;refine ax 4 [5,6,7,8,9,10,11,12,13,14,15,16] (oi:=⟨some 14,.move (.tmp 0),143,"parse.go:103",#[],none⟩) (d:=14) (v:=.pointer (some ⟨S.g,0,none⟩)) hF hS rfl rfl (by decide) (by kernel_rfl) (by kernel_rfl) (by kernel_rfl) (by kernel_rfl) (fun _ _ _ h=>h) (fun a' hA=>ag rfl) (aF rfl rfl) ?_
    clear hF;intro hF;refine ax 5 [6,7,8,9,10,11,12,13,14,15,16] (oi:=⟨some 15,.nilCheck (.tmp 14),0,"parse.go:103",#[⟨4,.data⟩],none⟩) (d:=15) (v:=.pointer (some ⟨S.g,0,none⟩)) hF hS rfl rfl (by decide) (by kernel_rfl) (by kernel_rfl) (by kernel_rfl) (by kernel_rfl) (fun _ _ _ h=>h) (fun a' hA=>ag rfl) (fun a' hA w' hw=>by have e14:=hA.get 14 rfl; have ec:∀ v,a'.eval (.const v)=v:=fun _=>rfl; clear hA; generalize a'.eval=ρ at *; simp [go_sem,ec,e14]; try rfl) ?_
    clear hF;intro hF;refine ax 6 [7,8,9,10,11,12,13,14,15,16] (oi:=⟨some 16,.fieldAddr 197 (.tmp 15) 2,0,"parse.go:103",#[⟨5,.data⟩],none⟩) (d:=16) (v:=.pointer (some ⟨S.g,2,none⟩)) hF hS rfl rfl (by decide) (by kernel_rfl) (by kernel_rfl) (by kernel_rfl) (by kernel_rfl) (fun _ _ _ h=>h) (fun a' hA=>ag rfl) (fun a' hA w' hw=>by have e15:=hA.get 15 rfl; have ec:∀ v,a'.eval (.const v)=v:=fun _=>rfl; clear hA; generalize a'.eval=ρ at *; simp [go_sem,ec,e15]; try rfl) ?_
    clear hF;intro hF;refine ax 7 [8,9,10,11,12,13,14,15,16] (oi:=⟨some 17,.load 3 (.tmp 16),3,"parse.go:103",#[⟨6,.data⟩],none⟩) (d:=17) (v:=.int .i64 ((i1+1:Nat):Int)) hF hS rfl rfl (by decide) (by kernel_rfl) (by kernel_rfl) (by kernel_rfl) (by kernel_rfl) (fun _ _ _ h=>h) (fun a' hA=>ag rfl) (fun a' hA w' hw=>by have e16:=hA.get 16 rfl; have ec:∀ v,a'.eval (.const v)=v:=fun _=>rfl; obtain ⟨q1,q2,q3⟩:=HS _ hw; clear hA; generalize a'.eval=ρ at *; simp [go_sem,ec,e16,q2]; try rfl) ?_
    clear hF;intro hF;refine ax 8 [9,10,11,12,13,14,15,16] (oi:=⟨some 18,.binOp .sub 3 (.tmp 17) (.const (.int .i64 1)) 3,3,"parse.go:103",#[⟨7,.data⟩],none⟩) (d:=18) (v:=.int .i64 (i1:Int)) hF hS rfl rfl (by decide) (by kernel_rfl) (by kernel_rfl) (by kernel_rfl) (by kernel_rfl) (fun _ _ _ h=>h) (fun a' hA=>ag rfl) (fun a' hA w' hw=>by have e17:=hA.get 17 rfl; have ec:∀ v,a'.eval (.const v)=v:=fun _=>rfl; clear hA; generalize a'.eval=ρ at *; simp [go_sem,ec,e17,hi1,hwr]; try rfl) ?_
    clear hF;intro hF;refine ax 9 [10,11,12,13,14,15,16] (oi:=⟨some 19,.indexAddr 50 (.tmp 13) (.tmp 18),0,"parse.go:103",#[⟨3,.data⟩,⟨8,.data⟩],none⟩) (d:=19) (v:=.pointer (some ⟨S.gw,i1 * 3,none⟩)) hF hS rfl rfl (by decide) (by kernel_rfl) (by kernel_rfl) (by kernel_rfl) (by kernel_rfl) (fun _ _ _ h=>h) (fun a' hA=>ag rfl) (fun a' hA w' hw=>by have e13:=hA.get 13 rfl; have e18:=hA.get 18 rfl; have ec:∀ v,a'.eval (.const v)=v:=fun _=>rfl; clear hA; generalize a'.eval=ρ at *; simp [go_sem,ec,e13,e18,hx1,hx2]; try rfl) ?_
    clear hF;intro hF;refine ax 10 [11,12,13,14,15,16] (oi:=⟨some 20,.fieldAddr 119 (.tmp 19) 0,0,"parse.go:103",#[⟨9,.data⟩],none⟩) (d:=20) (v:=.pointer (some ⟨S.gw,i1 * 3,none⟩)) hF hS rfl rfl (by decide) (by kernel_rfl) (by kernel_rfl) (by kernel_rfl) (by kernel_rfl) (fun _ _ _ h=>h) (fun a' hA=>ag rfl) (fun a' hA w' hw=>by have e19:=hA.get 19 rfl; have ec:∀ v,a'.eval (.const v)=v:=fun _=>rfl; clear hA; generalize a'.eval=ρ at *; simp [go_sem,ec,e19]; try rfl) ?_
    clear hF;intro hF;refine ax 11 [12,13,14,15,16] (oi:=⟨some 21,.load 3 (.tmp 20),3,"parse.go:103",#[⟨10,.data⟩],none⟩) (d:=21) (v:=.int .i64 (S.kd i1)) hF hS rfl rfl (by decide) (by kernel_rfl) (by kernel_rfl) (by kernel_rfl) (by kernel_rfl) (fun _ _ _ h=>h) (fun a' hA=>ag rfl) (fun a' hA w' hw=>by have e20:=hA.get 20 rfl; have ec:∀ v,a'.eval (.const v)=v:=fun _=>rfl; obtain ⟨q1,q2,q3⟩:=HS _ hw; clear hA; generalize a'.eval=ρ at *; simp [go_sem,ec,e20,q3]; try rfl) ?_
    clear hF;intro hF;refine ax 12 [13,14,15,16] (oi:=⟨some 22,.binOp .eql 3 (.tmp 21) (.const (.int .i64 7)) 3,4,"parse.go:103",#[⟨11,.data⟩],none⟩) (d:=22) (v:=.bool false) hF hS rfl rfl (by decide) (by kernel_rfl) (by kernel_rfl) (by kernel_rfl) (by kernel_rfl) (fun _ _ _ h=>h) (fun a' hA=>ag rfl) (fun a' hA w' hw=>by have e21:=hA.get 21 rfl; have ec:∀ v,a'.eval (.const v)=v:=fun _=>rfl; clear hA; generalize a'.eval=ρ at *; simp [go_sem,ec,e21,hkd]; try rfl) ?_
    clear hF;intro hF;refine ax 13 [14,15,16] (oi:=⟨some 23,.move (.tmp 22),4,"parse.go:103",#[⟨12,.data⟩],none⟩) (d:=23) (v:=.bool false) hF hS rfl rfl (by decide) (by kernel_rfl) (by kernel_rfl) (by kernel_rfl) (by kernel_rfl) (fun _ _ _ h=>h) (fun a' hA=>ag rfl) (aF rfl rfl) ?_
    clear hF;intro hF;refine GU 14 [15,16] (oi:=⟨some 24,.move (.tmp 0),143,"parse.go:103",#[⟨13,.guard⟩],some (13,true)⟩) (d:=24) hF hS rfl rfl (by decide) (by kernel_rfl) (by kernel_rfl) (by kernel_rfl) (by kernel_rfl) (fun _ _ _ h=>h) (fun a' hA=>hA.unwanted (j:=13) (dj:=23) (b:=true) (v:=.bool false) rfl (by kernel_rfl) (by decide) rfl (by intro h; cases h)) ?_
    clear hF;intro hF;refine GU 15 [16] (oi:=⟨some 25,.call ⟨.value (.func 172),#[.tmp 24,.const (.string { data:=#[46] })],#[143,9]⟩,4,"parse.go:103",#[⟨14,.data⟩,⟨13,.chain⟩,⟨13,.guard⟩],some (13,true)⟩) (d:=25) hF hS rfl rfl (by decide) (by kernel_rfl) (by kernel_rfl) (by kernel_rfl) (by kernel_rfl) (fun _ _ _ h=>h) (fun a' hA=>hA.unwanted (j:=13) (dj:=23) (b:=true) (v:=.bool false) rfl (by kernel_rfl) (by decide) rfl (by intro h; cases h)) ?_
    clear hF;intro hF;refine EI 16 (oi:=⟨some 26,.pick (.tmp 23) (.tmp 25) (.const (.bool false)),4,"parse.go:103",#[⟨13,.data⟩,⟨15,.data⟩],none⟩) (d:=26) (v:=.bool false) hF rfl rfl (by decide) (by kernel_rfl) (by kernel_rfl) (fun a' hA=>ag rfl) (fun a' hA=>by have e23:=hA.get 23 rfl; have e25:=hA.get 25 rfl; have ec:∀ v,a'.eval (.const v)=v:=fun _=>rfl; clear hA; generalize a'.eval=ρ at *; simp [go_sem,ec,e23,e25]; try rfl) ?_
    clear hF;intro hF;refine bu (by kernel_rfl) ?_ _
    subst ha0;simp only [Act.put,List.setIfInBounds_toArray,List.set_cons_zero,List.set_cons_succ];clear hF;have Xy:=hid hS
    go_wp2_with fail
    go_ret
    exact Or.inl ⟨acc,i1+1,_,iw.out,rfl,ownsRow_below HO.out Xy.out,Gf.out.step Xy.out,ae qj.out (grown_below Xy.out _)⟩
 ·exact ⟨rfl,Or.inr ⟨ch,by rw [dW.out]; exact ai ho,rfl,hg⟩⟩
theorem MQ (S:Src) (n d:Nat) (k:Int) (hk:k≠0) (w:World) (h:Rd w S n d) (aG:S.path [k] n≠.dry) :
  Calls prog 242 #[.pointer (some ⟨S.g,0,none⟩),.slice (some ⟨w.heap.size,0,none⟩) 1 1] (w.alloc (.cells #[.int .i64 k] 3)) fun e w'=>Ends S d w (S.path [k] n) (RL w) e w':=by
 have hb:Below w.heap.size w (w.alloc (.cells #[.int .i64 k] 3)):=(Below.refl w.heap.size w).alloc (Nat.le_refl _) _;refine (oM S n d [k] w.heap.size 1 _ (h.step hb) cells_one (by simp) (by have:=h.lt; omega) (by simp) (by simp) (by simpa using fun e:0=k=>hk e.symm) aG).mono fun e w' he=>?_
 refine Ends.base ?_ (grown_below hb _)
 rcases he with ⟨x,n,v,h1,h2,h3,h4,h5⟩ | h1
 ·exact Or.inl ⟨x,n,v,h1,h2,own_base h3 (by simp),h4,h5⟩
 ·exact Or.inr h1
theorem QY (S:Src) (n d:Nat) (k j:Int) (hk:k≠0) (hj:j≠0) (w:World) (h:Rd w S n d) (aG:S.path [k,j] n≠.dry) :
  Calls prog 242 #[.pointer (some ⟨S.g,0,none⟩),.slice (some ⟨w.heap.size,0,none⟩) 2 2] (w.alloc (.cells #[.int .i64 k,.int .i64 j] 3)) fun e w'=>Ends S d w (S.path [k,j] n) (RL w) e w':=by
 have hb:Below w.heap.size w (w.alloc (.cells #[.int .i64 k,.int .i64 j] 3)):=(Below.refl w.heap.size w).alloc (Nat.le_refl _) _;refine (oM S n d [k,j] w.heap.size 2 _ (h.step hb) Jt (by simp) (by have:=h.lt; omega) (by simp) (by simp) (by simpa using And.intro (fun e:0=k=>hk e.symm) (fun e:0=j=>hj e.symm)) aG).mono fun e w' he=>?_
 refine Ends.base ?_ (grown_below hb _)
 rcases he with ⟨x,n,v,h1,h2,h3,h4,h5⟩ | h1
 ·exact Or.inl ⟨x,n,v,h1,h2,own_base h3 (by simp),h4,h5⟩
 ·exact Or.inr h1
set_option maxHeartbeats 600000 in
theorem fA (S:Src) (n d:Nat) (w:World) (h:Rd w S n d) (hd:S.typePath n≠.dry) :
  Calls prog 284 #[.pointer (some ⟨S.g,0,none⟩)] w fun e w'=>Ends S d w (S.typePath n) (RL w) e w':=by
 unfold Src.typePath at hd ⊢;have HP:=hid (QY S n d 7 6 (by decide) (by decide) w h (aA hd));clear h hd
 go_enter func284,ntmps284
 go_wp2_with fail
 refine HP.out.mono ?_
 rintro e w1 (⟨p,n1,v,hpo,rfl,hv,hr,hg⟩ | ⟨ch,ho,rfl,hg⟩)
 ·have hlt:=GG hpo
  obtain ⟨i1,rfl⟩:∃ i1,n1=i1+1:=⟨n1 - 1,by omega⟩
  have HR1:=hid hr;have zY:=hid hg;have HV:=hid hv;have hl:=hr.here;have hil:i1 < S.ts.length:=by omega
  have HS:∀ W,Below w1.heap.size w1 W→W.cell? ⟨S.g,1,none⟩=some (.slice (some ⟨S.gw,0,none⟩) S.ts.length S.cw)∧W.cell? ⟨S.g,2,none⟩=some (.int .i64 ((i1+1:Nat):Int))∧W.cell? ⟨S.gw,i1 * 3,none⟩=some (.int .i64 (S.kd i1)):=fun W hW=>by
   have h1:=HR1.out.step hW;exact ⟨h1.c1,h1.c2,by rw [S.kd_at hil]; exact (h1.toks i1 hil).1⟩
  have hbd:=hr.bound;have hi1:((i1+1:Nat):Int) - 1=(i1:Int):=by omega
  have hwr:IntKind.i64.wrap (i1:Int)=(i1:Int):=IntWalk.i64_in _ (by omega);have hx1:(0:Int)≤(i1:Int):=by omega
  have hx2:(i1:Int) < (S.ts.length:Int):=by omega
  obtain ⟨pv,nv,cv,rfl⟩:=hv.form;have hsub:i1+1 - 1=i1:=by omega
  have qi:=hid hpo;have Un:=hid hsub;clear hv hr hg hl hpo hsub hlt
  go_wp2_with fail
  by_cases hkd:S.kd i1=6
  ·have HKT:Hid ((S.kd (i1+1 - 1) == 6)=true):=hid (by rw [Un.out]; simp [hkd])
   refine aY (fun W=>Below w1.heap.size w1 W) 14 (by kernel_rfl) ?_
   have hS:Below w1.heap.size w1 w1.drew:=(Below.refl w1.heap.size w1).drew;refine dL (N:=23) [(0,.pointer (some ⟨S.g,0,none⟩))] (Fs.of rfl rfl (by simp [Act.eval])) ?_
   intro a0 ha0 hF;refine ax 0 [14] (oi:=⟨some 7,.move (.tmp 0),143,"terms.go:205",#[],none⟩) (d:=7) (v:=.pointer (some ⟨S.g,0,none⟩)) hF hS rfl rfl (by decide) (by kernel_rfl) (by kernel_rfl) (by kernel_rfl) (by kernel_rfl) (fun _ _ _ h=>h) (fun a' hA=>ag rfl) (aF rfl rfl) ?_
   clear hF;intro hF;refine ax 1 [2,3,4,10,11,12,13,14] (oi:=⟨some 8,.move (.tmp 0),143,"terms.go:205",#[],none⟩) (d:=8) (v:=.pointer (some ⟨S.g,0,none⟩)) hF hS rfl rfl (by decide) (by kernel_rfl) (by kernel_rfl) (by kernel_rfl) (by kernel_rfl) (fun _ _ _ h=>h) (fun a' hA=>ag rfl) (aF rfl rfl) ?_
   clear hF;intro hF;refine ax 2 [3,4,10,11,12,13,14] (oi:=⟨some 9,.nilCheck (.tmp 8),0,"terms.go:205",#[⟨1,.data⟩],none⟩) (d:=9) (v:=.pointer (some ⟨S.g,0,none⟩)) hF hS rfl rfl (by decide) (by kernel_rfl) (by kernel_rfl) (by kernel_rfl) (by kernel_rfl) (fun _ _ _ h=>h) (fun a' hA=>ag rfl) (fun a' hA w' hw=>by have e8:=hA.get 8 rfl; have ec:∀ v,a'.eval (.const v)=v:=fun _=>rfl; clear hA; generalize a'.eval=ρ at *; simp [go_sem,ec,e8]; try rfl) ?_
   clear hF;intro hF;refine ax 3 [4,10,11,12,13,14] (oi:=⟨some 10,.fieldAddr 197 (.tmp 9) 1,0,"terms.go:205",#[⟨2,.data⟩],none⟩) (d:=10) (v:=.pointer (some ⟨S.g,1,none⟩)) hF hS rfl rfl (by decide) (by kernel_rfl) (by kernel_rfl) (by kernel_rfl) (by kernel_rfl) (fun _ _ _ h=>h) (fun a' hA=>ag rfl) (fun a' hA w' hw=>by have e9:=hA.get 9 rfl; have ec:∀ v,a'.eval (.const v)=v:=fun _=>rfl; clear hA; generalize a'.eval=ρ at *; simp [go_sem,ec,e9]; try rfl) ?_
   clear hF;intro hF;refine ax 4 [10,11,12,13,14] (oi:=⟨some 11,.load 50 (.tmp 10),50,"terms.go:205",#[⟨3,.data⟩],none⟩) (d:=11) (v:=.slice (some ⟨S.gw,0,none⟩) S.ts.length S.cw) hF hS rfl rfl (by decide) (by kernel_rfl) (by kernel_rfl) (by kernel_rfl) (by kernel_rfl) (fun _ _ _ h=>h) (fun a' hA=>ag rfl) (fun a' hA w' hw=>by have e10:=hA.get 10 rfl; have ec:∀ v,a'.eval (.const v)=v:=fun _=>rfl; obtain ⟨q1,q2,q3⟩:=HS _ hw; clear hA; generalize a'.eval=ρ at *; simp [go_sem,ec,e10,q1]; try rfl) ?_
   clear hF;intro hF;refine ax 5 [6,7,8,9,10,11,12,13,14] (oi:=⟨some 12,.move (.tmp 0),143,"terms.go:205",#[],none⟩) (d:=12) (v:=.pointer (some ⟨S.g,0,none⟩)) hF hS rfl rfl (by decide) (by kernel_rfl) (by kernel_rfl) (by kernel_rfl) (by kernel_rfl) (fun _ _ _ h=>h) (fun a' hA=>ag rfl) (aF rfl rfl) ?_
   clear hF;intro hF;refine ax 6 [7,8,9,10,11,12,13,14] (oi:=⟨some 13,.nilCheck (.tmp 12),0,"terms.go:205",#[⟨5,.data⟩],none⟩) (d:=13) (v:=.pointer (some ⟨S.g,0,none⟩)) hF hS rfl rfl (by decide) (by kernel_rfl) (by kernel_rfl) (by kernel_rfl) (by kernel_rfl) (fun _ _ _ h=>h) (fun a' hA=>ag rfl) (fun a' hA w' hw=>by have e12:=hA.get 12 rfl; have ec:∀ v,a'.eval (.const v)=v:=fun _=>rfl; clear hA; generalize a'.eval=ρ at *; simp [go_sem,ec,e12]; try rfl) ?_
   clear hF;intro hF;refine ax 7 [8,9,10,11,12,13,14] (oi:=⟨some 14,.fieldAddr 197 (.tmp 13) 2,0,"terms.go:205",#[⟨6,.data⟩],none⟩) (d:=14) (v:=.pointer (some ⟨S.g,2,none⟩)) hF hS rfl rfl (by decide) (by kernel_rfl) (by kernel_rfl) (by kernel_rfl) (by kernel_rfl) (fun _ _ _ h=>h) (fun a' hA=>ag rfl) (fun a' hA w' hw=>by have e13:=hA.get 13 rfl; have ec:∀ v,a'.eval (.const v)=v:=fun _=>rfl; clear hA; generalize a'.eval=ρ at *; simp [go_sem,ec,e13]; try rfl) ?_
   clear hF;intro hF;refine ax 8 [9,10,11,12,13,14] (oi:=⟨some 15,.load 3 (.tmp 14),3,"terms.go:205",#[⟨7,.data⟩],none⟩) (d:=15) (v:=.int .i64 ((i1+1):Int)) hF hS rfl rfl (by decide) (by kernel_rfl) (by kernel_rfl) (by kernel_rfl) (by kernel_rfl) (fun _ _ _ h=>h) (fun a' hA=>ag rfl) (fun a' hA w' hw=>by have e14:=hA.get 14 rfl; have ec:∀ v,a'.eval (.const v)=v:=fun _=>rfl; obtain ⟨q1,q2,q3⟩:=HS _ hw; clear hA; generalize a'.eval=ρ at *; simp [go_sem,ec,e14,q2]; try rfl) ?_
   clear hF;intro hF;refine ax 9 [10,11,12,13,14] (oi:=⟨some 16,.binOp .sub 3 (.tmp 15) (.const (.int .i64 1)) 3,3,"terms.go:205",#[⟨8,.data⟩],none⟩) (d:=16) (v:=.int .i64 (i1:Int)) hF hS rfl rfl (by decide) (by kernel_rfl) (by kernel_rfl) (by kernel_rfl) (by kernel_rfl) (fun _ _ _ h=>h) (fun a' hA=>ag rfl) (fun a' hA w' hw=>by have e15:=hA.get 15 rfl; have ec:∀ v,a'.eval (.const v)=v:=fun _=>rfl; clear hA; generalize a'.eval=ρ at *; simp [go_sem,ec,e15,hi1,hwr]; try rfl) ?_
   clear hF;intro hF;refine ax 10 [11,12,13,14] (oi:=⟨some 17,.indexAddr 50 (.tmp 11) (.tmp 16),0,"terms.go:205",#[⟨4,.data⟩,⟨9,.data⟩],none⟩) (d:=17) (v:=.pointer (some ⟨S.gw,i1 * 3,none⟩)) hF hS rfl rfl (by decide) (by kernel_rfl) (by kernel_rfl) (by kernel_rfl) (by kernel_rfl) (fun _ _ _ h=>h) (fun a' hA=>ag rfl) (fun a' hA w' hw=>by have e11:=hA.get 11 rfl; have e16:=hA.get 16 rfl; have ec:∀ v,a'.eval (.const v)=v:=fun _=>rfl; clear hA; generalize a'.eval=ρ at *; simp [go_sem,ec,e11,e16,hx1,hx2]; try rfl) ?_
   clear hF;intro hF;refine ax 11 [12,13,14] (oi:=⟨some 18,.fieldAddr 119 (.tmp 17) 0,0,"terms.go:205",#[⟨10,.data⟩],none⟩) (d:=18) (v:=.pointer (some ⟨S.gw,i1 * 3,none⟩)) hF hS rfl rfl (by decide) (by kernel_rfl) (by kernel_rfl) (by kernel_rfl) (by kernel_rfl) (fun _ _ _ h=>h) (fun a' hA=>ag rfl) (fun a' hA w' hw=>by have e17:=hA.get 17 rfl; have ec:∀ v,a'.eval (.const v)=v:=fun _=>rfl; clear hA; generalize a'.eval=ρ at *; simp [go_sem,ec,e17]; try rfl) ?_
   clear hF;intro hF;refine ax 12 [13,14] (oi:=⟨some 19,.load 3 (.tmp 18),3,"terms.go:205",#[⟨11,.data⟩],none⟩) (d:=19) (v:=.int .i64 (S.kd i1)) hF hS rfl rfl (by decide) (by kernel_rfl) (by kernel_rfl) (by kernel_rfl) (by kernel_rfl) (fun _ _ _ h=>h) (fun a' hA=>ag rfl) (fun a' hA w' hw=>by have e18:=hA.get 18 rfl; have ec:∀ v,a'.eval (.const v)=v:=fun _=>rfl; obtain ⟨q1,q2,q3⟩:=HS _ hw; clear hA; generalize a'.eval=ρ at *; simp [go_sem,ec,e18,q3]; try rfl) ?_
   clear hF;intro hF;refine ax 13 [14] (oi:=⟨some 20,.binOp .eql 3 (.tmp 19) (.const (.int .i64 6)) 3,4,"terms.go:205",#[⟨12,.data⟩],none⟩) (d:=20) (v:=.bool true) hF hS rfl rfl (by decide) (by kernel_rfl) (by kernel_rfl) (by kernel_rfl) (by kernel_rfl) (fun _ _ _ h=>h) (fun a' hA=>ag rfl) (fun a' hA w' hw=>by have e19:=hA.get 19 rfl; have ec:∀ v,a'.eval (.const v)=v:=fun _=>rfl; clear hA; generalize a'.eval=ρ at *; simp [go_sem,ec,e19,hkd]; try rfl) ?_
   clear hF;intro hF;refine lh 14 (oi:=⟨some 21,.call ⟨.value (.func 119),#[.tmp 7,.tmp 20],#[143,4]⟩,0,"terms.go:205",#[⟨0,.data⟩,⟨13,.data⟩],none⟩) (d:=21) (R:=fun e w'=>e=.returned (.tuple #[])∧w1.drew=w') hF rfl rfl (by decide) (by kernel_rfl) (fun a' hA=>ag rfl) (fun a' hA=>by have e7:=hA.get 7 rfl; have e20:=hA.get 20 rfl; have ef:∀ f,a'.eval (.func f)=.func (.func f) #[] #[]:=fun _=>rfl; have ec:∀ v,a'.eval (.const v)=v:=fun _=>rfl; clear hA; generalize a'.eval=ρ at *; simp [go_sem,ef,ec,e7,e20]) (nC S (i1+1) d w1.drew (HR1.out.step hS)) (by rintro w' ⟨h,_⟩; cases h) ?_ ?_
   ·rintro ch w' ⟨h,_⟩
    cases h
   ·rintro v w' ⟨h,rfl⟩
    have h:=Ending.returned.inj h;subst h;refine ⟨fun h=>absurd h (by decide),fun hF=>bu (by kernel_rfl) ?_ _⟩
    subst ha0;simp only [Act.put,List.setIfInBounds_toArray,List.set_cons_zero,List.set_cons_succ];have HSX:=hid hS;clear hF hS HS hkd hwr hi1
    go_wp2_with fail
    go_ret
    have hS:=HSX.out;exact Or.inl ⟨p,(i1+1),_,by rw [qi.out]; simp only [Out.bind,HKT.out,cond_true],rfl,HV.out.step hS,HR1.out.step hS,ae zY.out (grown_below hS _)⟩
  ·have HKF:Hid ((S.kd (i1+1 - 1) == 6)=false):=hid (by rw [Un.out]; simp [hkd])
   refine aY (fun W=>Below w1.heap.size w1 W) 14 (by kernel_rfl) ?_
   have hS:Below w1.heap.size w1 w1.drew:=(Below.refl w1.heap.size w1).drew;refine dL (N:=23) [(0,.pointer (some ⟨S.g,0,none⟩))] (Fs.of rfl rfl (by simp [Act.eval])) ?_
   intro a0 ha0 hF;refine ax 0 [14] (oi:=⟨some 7,.move (.tmp 0),143,"terms.go:205",#[],none⟩) (d:=7) (v:=.pointer (some ⟨S.g,0,none⟩)) hF hS rfl rfl (by decide) (by kernel_rfl) (by kernel_rfl) (by kernel_rfl) (by kernel_rfl) (fun _ _ _ h=>h) (fun a' hA=>ag rfl) (aF rfl rfl) ?_
   clear hF;intro hF;refine ax 1 [2,3,4,10,11,12,13,14] (oi:=⟨some 8,.move (.tmp 0),143,"terms.go:205",#[],none⟩) (d:=8) (v:=.pointer (some ⟨S.g,0,none⟩)) hF hS rfl rfl (by decide) (by kernel_rfl) (by kernel_rfl) (by kernel_rfl) (by kernel_rfl) (fun _ _ _ h=>h) (fun a' hA=>ag rfl) (aF rfl rfl) ?_
   clear hF;intro hF;refine ax 2 [3,4,10,11,12,13,14] (oi:=⟨some 9,.nilCheck (.tmp 8),0,"terms.go:205",#[⟨1,.data⟩],none⟩) (d:=9) (v:=.pointer (some ⟨S.g,0,none⟩)) hF hS rfl rfl (by decide) (by kernel_rfl) (by kernel_rfl) (by kernel_rfl) (by kernel_rfl) (fun _ _ _ h=>h) (fun a' hA=>ag rfl) (fun a' hA w' hw=>by have e8:=hA.get 8 rfl; have ec:∀ v,a'.eval (.const v)=v:=fun _=>rfl; clear hA; generalize a'.eval=ρ at *; simp [go_sem,ec,e8]; try rfl) ?_
   clear hF;intro hF;refine ax 3 [4,10,11,12,13,14] (oi:=⟨some 10,.fieldAddr 197 (.tmp 9) 1,0,"terms.go:205",#[⟨2,.data⟩],none⟩) (d:=10) (v:=.pointer (some ⟨S.g,1,none⟩)) hF hS rfl rfl (by decide) (by kernel_rfl) (by kernel_rfl) (by kernel_rfl) (by kernel_rfl) (fun _ _ _ h=>h) (fun a' hA=>ag rfl) (fun a' hA w' hw=>by have e9:=hA.get 9 rfl; have ec:∀ v,a'.eval (.const v)=v:=fun _=>rfl; clear hA; generalize a'.eval=ρ at *; simp [go_sem,ec,e9]; try rfl) ?_
   clear hF;intro hF;refine ax 4 [10,11,12,13,14] (oi:=⟨some 11,.load 50 (.tmp 10),50,"terms.go:205",#[⟨3,.data⟩],none⟩) (d:=11) (v:=.slice (some ⟨S.gw,0,none⟩) S.ts.length S.cw) hF hS rfl rfl (by decide) (by kernel_rfl) (by kernel_rfl) (by kernel_rfl) (by kernel_rfl) (fun _ _ _ h=>h) (fun a' hA=>ag rfl) (fun a' hA w' hw=>by have e10:=hA.get 10 rfl; have ec:∀ v,a'.eval (.const v)=v:=fun _=>rfl; obtain ⟨q1,q2,q3⟩:=HS _ hw; clear hA; generalize a'.eval=ρ at *; simp [go_sem,ec,e10,q1]; try rfl) ?_
   clear hF;intro hF;refine ax 5 [6,7,8,9,10,11,12,13,14] (oi:=⟨some 12,.move (.tmp 0),143,"terms.go:205",#[],none⟩) (d:=12) (v:=.pointer (some ⟨S.g,0,none⟩)) hF hS rfl rfl (by decide) (by kernel_rfl) (by kernel_rfl) (by kernel_rfl) (by kernel_rfl) (fun _ _ _ h=>h) (fun a' hA=>ag rfl) (aF rfl rfl) ?_
   clear hF;intro hF;refine ax 6 [7,8,9,10,11,12,13,14] (oi:=⟨some 13,.nilCheck (.tmp 12),0,"terms.go:205",#[⟨5,.data⟩],none⟩) (d:=13) (v:=.pointer (some ⟨S.g,0,none⟩)) hF hS rfl rfl (by decide) (by kernel_rfl) (by kernel_rfl) (by kernel_rfl) (by kernel_rfl) (fun _ _ _ h=>h) (fun a' hA=>ag rfl) (fun a' hA w' hw=>by have e12:=hA.get 12 rfl; have ec:∀ v,a'.eval (.const v)=v:=fun _=>rfl; clear hA; generalize a'.eval=ρ at *; simp [go_sem,ec,e12]; try rfl) ?_
   clear hF;intro hF;refine ax 7 [8,9,10,11,12,13,14] (oi:=⟨some 14,.fieldAddr 197 (.tmp 13) 2,0,"terms.go:205",#[⟨6,.data⟩],none⟩) (d:=14) (v:=.pointer (some ⟨S.g,2,none⟩)) hF hS rfl rfl (by decide) (by kernel_rfl) (by kernel_rfl) (by kernel_rfl) (by kernel_rfl) (fun _ _ _ h=>h) (fun a' hA=>ag rfl) (fun a' hA w' hw=>by have e13:=hA.get 13 rfl; have ec:∀ v,a'.eval (.const v)=v:=fun _=>rfl; clear hA; generalize a'.eval=ρ at *; simp [go_sem,ec,e13]; try rfl) ?_
   clear hF;intro hF;refine ax 8 [9,10,11,12,13,14] (oi:=⟨some 15,.load 3 (.tmp 14),3,"terms.go:205",#[⟨7,.data⟩],none⟩) (d:=15) (v:=.int .i64 ((i1+1):Int)) hF hS rfl rfl (by decide) (by kernel_rfl) (by kernel_rfl) (by kernel_rfl) (by kernel_rfl) (fun _ _ _ h=>h) (fun a' hA=>ag rfl) (fun a' hA w' hw=>by have e14:=hA.get 14 rfl; have ec:∀ v,a'.eval (.const v)=v:=fun _=>rfl; obtain ⟨q1,q2,q3⟩:=HS _ hw; clear hA; generalize a'.eval=ρ at *; simp [go_sem,ec,e14,q2]; try rfl) ?_
   clear hF;intro hF;refine ax 9 [10,11,12,13,14] (oi:=⟨some 16,.binOp .sub 3 (.tmp 15) (.const (.int .i64 1)) 3,3,"terms.go:205",#[⟨8,.data⟩],none⟩) (d:=16) (v:=.int .i64 (i1:Int)) hF hS rfl rfl (by decide) (by kernel_rfl) (by kernel_rfl) (by kernel_rfl) (by kernel_rfl) (fun _ _ _ h=>h) (fun a' hA=>ag rfl) (fun a' hA w' hw=>by have e15:=hA.get 15 rfl; have ec:∀ v,a'.eval (.const v)=v:=fun _=>rfl; clear hA; generalize a'.eval=ρ at *; simp [go_sem,ec,e15,hi1,hwr]; try rfl) ?_
   clear hF;intro hF;refine ax 10 [11,12,13,14] (oi:=⟨some 17,.indexAddr 50 (.tmp 11) (.tmp 16),0,"terms.go:205",#[⟨4,.data⟩,⟨9,.data⟩],none⟩) (d:=17) (v:=.pointer (some ⟨S.gw,i1 * 3,none⟩)) hF hS rfl rfl (by decide) (by kernel_rfl) (by kernel_rfl) (by kernel_rfl) (by kernel_rfl) (fun _ _ _ h=>h) (fun a' hA=>ag rfl) (fun a' hA w' hw=>by have e11:=hA.get 11 rfl; have e16:=hA.get 16 rfl; have ec:∀ v,a'.eval (.const v)=v:=fun _=>rfl; clear hA; generalize a'.eval=ρ at *; simp [go_sem,ec,e11,e16,hx1,hx2]; try rfl) ?_
   clear hF;intro hF;refine ax 11 [12,13,14] (oi:=⟨some 18,.fieldAddr 119 (.tmp 17) 0,0,"terms.go:205",#[⟨10,.data⟩],none⟩) (d:=18) (v:=.pointer (some ⟨S.gw,i1 * 3,none⟩)) hF hS rfl rfl (by decide) (by kernel_rfl) (by kernel_rfl) (by kernel_rfl) (by kernel_rfl) (fun _ _ _ h=>h) (fun a' hA=>ag rfl) (fun a' hA w' hw=>by have e17:=hA.get 17 rfl; have ec:∀ v,a'.eval (.const v)=v:=fun _=>rfl; clear hA; generalize a'.eval=ρ at *; simp [go_sem,ec,e17]; try rfl) ?_
   clear hF;intro hF;refine ax 12 [13,14] (oi:=⟨some 19,.load 3 (.tmp 18),3,"terms.go:205",#[⟨11,.data⟩],none⟩) (d:=19) (v:=.int .i64 (S.kd i1)) hF hS rfl rfl (by decide) (by kernel_rfl) (by kernel_rfl) (by kernel_rfl) (by kernel_rfl) (fun _ _ _ h=>h) (fun a' hA=>ag rfl) (fun a' hA w' hw=>by have e18:=hA.get 18 rfl; have ec:∀ v,a'.eval (.const v)=v:=fun _=>rfl; obtain ⟨q1,q2,q3⟩:=HS _ hw; clear hA; generalize a'.eval=ρ at *; simp [go_sem,ec,e18,q3]; try rfl) ?_
   clear hF;intro hF;refine ax 13 [14] (oi:=⟨some 20,.binOp .eql 3 (.tmp 19) (.const (.int .i64 6)) 3,4,"terms.go:205",#[⟨12,.data⟩],none⟩) (d:=20) (v:=.bool false) hF hS rfl rfl (by decide) (by kernel_rfl) (by kernel_rfl) (by kernel_rfl) (by kernel_rfl) (fun _ _ _ h=>h) (fun a' hA=>ag rfl) (fun a' hA w' hw=>by have e19:=hA.get 19 rfl; have ec:∀ v,a'.eval (.const v)=v:=fun _=>rfl; clear hA; generalize a'.eval=ρ at *; simp [go_sem,ec,e19,hkd]; try rfl) ?_
   clear hF;intro hF;refine lh 14 (oi:=⟨some 21,.call ⟨.value (.func 119),#[.tmp 7,.tmp 20],#[143,4]⟩,0,"terms.go:205",#[⟨0,.data⟩,⟨13,.data⟩],none⟩) (d:=21) (R:=fun e w'=>e=.panicked [{ v:=.iface 194 (.int .i64 (S.pl (i1+1))),recovered:=false }]∧Below w1.drew.heap.size w1.drew w') hF rfl rfl (by decide) (by kernel_rfl) (fun a' hA=>ag rfl) (fun a' hA=>by have e7:=hA.get 7 rfl; have e20:=hA.get 20 rfl; have ef:∀ f,a'.eval (.func f)=.func (.func f) #[] #[]:=fun _=>rfl; have ec:∀ v,a'.eval (.const v)=v:=fun _=>rfl; clear hA; generalize a'.eval=ρ at *; simp [go_sem,ef,ec,e7,e20]) (oO S (i1+1) d w1.drew (HR1.out.step hS)) (by rintro w' ⟨h,_⟩; cases h) ?_ ?_
   ·rintro ch w' ⟨h,hb⟩
    have h:=Ending.panicked.inj h;subst h;have hE:Ends S d w ((S.path [7,6] n).bind fun p n'=>bif S.kd (n' - 1) == 6 then Out.ok p n' else Out.form n') (RL w) (.panicked [{ v:=.iface 194 (.int .i64 (S.pl (i1+1))),recovered:=false }]) w':=by
     refine Or.inr ⟨[{ v:=.iface 194 (.int .i64 (S.pl (i1+1))),recovered:=false }],?_,rfl,ae zY.out (grown_below (hS.trans (hb.mono hS.size)) _)⟩
     rw [qi.out];simp only [Out.bind,HKF.out,cond_false,Out.pan]
    have hq:bodyPost prog f284 (fun e w'=>Ends S d w ((S.path [7,6] n).bind fun p n'=>bif S.kd (n' - 1) == 6 then Out.ok p n' else Out.form n') (RL w) e w') (.panic [{ v:=.iface 194 (.int .i64 (S.pl (i1+1))),recovered:=false }]) _ w':=⟨hF.2.1,hE⟩;exact hq
   ·rintro v w' ⟨h,_⟩
    cases h
 ·exact ⟨rfl,Or.inr ⟨ch,ai ho,rfl,hg⟩⟩
end Go.Proofs.YtmpmfamiegpmgaaGreatDoor
