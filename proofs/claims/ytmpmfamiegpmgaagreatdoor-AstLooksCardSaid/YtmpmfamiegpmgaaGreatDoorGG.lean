/-
  The reader's part: one part more lies around what is read.; The reader's row: parts of one kind with a mark between them.; What a function that hands a branch back does last; the reader's atomicTy.; The reader's product.
-/
import Derived.Test.YtmpmfamiegpmgaaGreatDoorGF
namespace Go.Proofs.YtmpmfamiegpmgaaGreatDoor
open Tryz
open Go.Lib (cell_of_heap hid)
open Go.RowKit
set_option maxRecDepth 20000
set_option linter.unusedVariables false
set_option linter.unusedSimpArgs false
theorem Rd.setDeep {w:World} {S:Src} {n d:Nat} (h:Rd w S n d) (e:Nat) (he:e≤256) (x:Int) (hx:x=(e:Int)):Rd (w.setCell ⟨S.g,3,none⟩ (.int .i64 x)) S n e:=by
 subst hx;have hne:S.gw≠S.g:=h.good.apart;refine ⟨h.good,h.here,?_,by simpa using h.row,fun i hi=>?_,he⟩
 ·rw [heap_setCell_same w S.g 3 _ _ _ h.box]
  rfl
 ·obtain ⟨t0,t1,t2⟩:=h.toks i hi
  have far:∀ o,(w.setCell ⟨S.g,3,none⟩ (.int .i64 (e:Int))).cell? ⟨S.gw,o,none⟩=w.cell? ⟨S.gw,o,none⟩:=fun o=>World.cell?_of_block (Below.heap_setCell _ _ _ _ hne)
  exact ⟨(far _).trans t0,(far _).trans t1,(far _).trans t2⟩
theorem iq {w:World} {g:Nat} {z0 z1 z2 z3 z4 z5:Value} (h:w.heap[g]?=some (.cells #[z0,z1,z2,z3,z4,z5] 96 (0,0))) (a0 a1 a2 a3 a4 a5:Value) :
  ((((((w.setCell ⟨g,0,none⟩ a0).setCell ⟨g,1,none⟩ a1).setCell ⟨g,2,none⟩ a2).setCell ⟨g,3,none⟩ a3).setCell ⟨g,4,none⟩ a4).setCell ⟨g,5,none⟩ a5).heap[g]?=some (.cells #[a0,a1,a2,a3,a4,a5] 96 (0,0)) ∧
  w.grownBy ((((((w.setCell ⟨g,0,none⟩ a0).setCell ⟨g,1,none⟩ a1).setCell ⟨g,2,none⟩ a2).setCell ⟨g,3,none⟩ a3).setCell ⟨g,4,none⟩ a4).setCell ⟨g,5,none⟩ a5) (some g):=by
 constructor
 ·have h1:=heap_setCell_same w g 0 _ _ a0 h
  have h2:=heap_setCell_same _ g 1 _ _ a1 h1;have h3:=heap_setCell_same _ g 2 _ _ a2 h2;have h4:=heap_setCell_same _ g 3 _ _ a3 h3;have h5:=heap_setCell_same _ g 4 _ _ a4 h4;have h6:=heap_setCell_same _ g 5 _ _ a5 h5;rw [h6]; rfl
 ·exact ae (ae (ae (ae (ae (aN g 0 a0) (aN g 1 a1)) (aN g 2 a2)) (aN g 3 a3)) (aN g 4 a4)) (aN g 5 a5)
set_option maxHeartbeats 4000000 in
theorem jR (m:Nat) (cap:Array Value) (hcf:∀ args w,Sem.run prog (callFunc m args) w=.ok (.enter m args) w) (S:Src) (n d:Nat) (o:Out Pb) (w:World) (h:Rd w S n d)
  (hread:d < 256→∀ w',Rd w' S n (d+1)→w.grownBy w' (some S.g)→o≠.dry→Calls prog m (#[.int .i64 (n:Int)]++cap) w' (fun e w''=>Ends S (d+1) w' o (RB w') e w''))
  (aG:(bif d == 256 then Out.deep n else o)≠.dry) :
  Calls prog 228 #[.pointer (some ⟨S.g,0,none⟩),.func (.func m) #[] cap] w fun e w'=>Ends S d w (bif d == 256 then Out.deep n else o) (RB w) e w':=by
 have hb1:Below w.heap.size w (w.alloc (.cells #[.int .i64 0,.int .i64 0,.int .i64 0,.int .i64 0,.slice none 0 0,.slice none 0 0] 96)):=(Below.refl w.heap.size w).alloc (Nat.le_refl _) _;have hrb:=heap_alloc_new w (.cells #[.int .i64 0,.int .i64 0,.int .i64 0,.int .i64 0,.slice none 0 0,.slice none 0 0] 96);have hr1:=h.step hb1;have hgl:=h.lt;have aW:=h.row;have Z9:=h.deep;have c2:=hr1.c2;have c3:=hr1.c3;have f3:=hr1.free 3;have HR1:=hid hr1;have HB1:=hid hb1;have HRB:=hid hrb
 by_cases h256:d=256
 ·have e1:(bif d == 256 then Out.deep n else o)=.deep n:=by simp [h256]
  rw [e1];have HP:=hid (vM S n d _ hr1);have h256':((d:Int) == 256)=true:=by simp [h256]
  clear h hr1 hb1 hrb hread aG e1;generalize hdd:(d:Int)=di at *
  go_enter func228,ntmps228
  go_wp2_with fail
  refine HP.out.mono ?_
  rintro e w2 ⟨rfl,hb2⟩;have HB2:=hid (HB1.out.trans (hb2.mono HB1.out.size));clear hb2
  go_wp2_with fail
  exact ⟨rfl,Or.inr ⟨_,rfl,rfl,grown_below HB2.out _⟩⟩
 ·have e1:(bif d == 256 then Out.deep n else o)=o:=by rw [show (d == 256)=false from by simp [h256]]; rfl
  rw [e1] at aG ⊢;have hd1:d+1≤256:=by omega
  have h256':((d:Int) == 256)=false:=by rw [beq_eq_false_iff_ne]; omega
  have hrs:Rd (w.setCell ⟨S.g,3,none⟩ (.int .i64 ((d:Int)+1))) S n (d+1):=h.setDeep (d+1) hd1 _ (by omega);have hr2:Rd ((w.setCell ⟨S.g,3,none⟩ (.int .i64 ((d:Int)+1))).alloc (.cells #[.int .i64 0,.int .i64 0,.int .i64 0,.int .i64 0,.slice none 0 0,.slice none 0 0] 96)) S n (d+1):=hrs.step ((Below.refl _ _).alloc (Nat.le_refl _) _);have hg2:w.grownBy ((w.setCell ⟨S.g,3,none⟩ (.int .i64 ((d:Int)+1))).alloc (.cells #[.int .i64 0,.int .i64 0,.int .i64 0,.int .i64 0,.slice none 0 0,.slice none 0 0] 96)) (some S.g):=ae (aN _ _ _) (grown_below ((Below.refl _ _).alloc (Nat.le_refl _) _) _);have d2:=hr2.c2;have HX:=hid (hread (by omega) _ hr2 hg2 aG);have hzs:(w.setCell ⟨S.g,3,none⟩ (.int .i64 ((d:Int)+1))).heap.size=w.heap.size:=by simp
  have Us:((w.setCell ⟨S.g,3,none⟩ (.int .i64 ((d:Int)+1))).alloc (.cells #[.int .i64 0,.int .i64 0,.int .i64 0,.int .i64 0,.slice none 0 0,.slice none 0 0] 96)).heap[w.heap.size]?=some (.cells #[.int .i64 0,.int .i64 0,.int .i64 0,.int .i64 0,.slice none 0 0,.slice none 0 0] 96 (0,0)):=by
   rw [← hzs]; exact heap_alloc_new _ _
  have hz2:w.heap.size < ((w.setCell ⟨S.g,3,none⟩ (.int .i64 ((d:Int)+1))).alloc (.cells #[.int .i64 0,.int .i64 0,.int .i64 0,.int .i64 0,.slice none 0 0,.slice none 0 0] 96)).heap.size:=by simp
  have HG2:=hid hg2;have Xz:=hid Us;have HZ2:=hid hz2;clear h hr1 hb1 hrb hread e1 hr2 hg2 Us hz2 hrs hzs
  go_enter func228,ntmps228
  go_wp2_with fail
  generalize ((w.setCell ⟨S.g,3,none⟩ (.int .i64 ((d:Int)+1))).alloc (.cells #[.int .i64 0,.int .i64 0,.int .i64 0,.int .i64 0,.slice none 0 0,.slice none 0 0] 96))=w2 at *;refine HX.out.mono ?_
  rintro e w3 (⟨x,n1,v,ho,rfl,⟨y,rfl,hyl,hyo,hyp⟩,hr3,hg3⟩ | ⟨ch,ho,rfl,hg3⟩)
  ·have Ut:=hg3.size
   have XA:=HG2.out.size;have Uu:=HZ2.out;have hl3:=hr3.lt;have hn1:¬ S.g=w3.heap.size:=by omega
   have hn2:¬ w3.heap.size=S.g:=by omega
   have hn3:¬ w.heap.size=w3.heap.size:=by omega
   have hn4:¬ w3.heap.size=w.heap.size:=by omega
   have XB:¬ S.g=w.heap.size:=by omega
   have hn6:¬ w.heap.size=S.g:=by omega
   have sU:=(hg3.block w.heap.size Uu (fun e=>by have:=Option.some.inj e; omega)).trans Xz.out;have hr4:Rd (w3.setCell ⟨S.g,3,none⟩ (.int .i64 (d:Int))) S n1 d:=hr3.setDeep d (by omega) _ rfl;have Rf:(w3.setCell ⟨S.g,3,none⟩ (.int .i64 (d:Int))).heap[w.heap.size]?=some (.cells #[.int .i64 0,.int .i64 0,.int .i64 0,.int .i64 0,.slice none 0 0,.slice none 0 0] 96 (0,0)):=(Below.heap_setCell _ _ _ _ (by simp only; omega)).trans sU;have Rh:=hr3.step ((Below.refl w3.heap.size w3).alloc (Nat.le_refl _) (.cells #[.int .i64 y.h.k,.int .i64 y.h.m,.int .i64 y.h.f,.int .i64 y.h.t,.slice y.h.np y.h.nn y.h.nc,.slice y.h.kp y.h.kn y.h.kc] 96));have c3:(w3.alloc (.cells #[.int .i64 y.h.k,.int .i64 y.h.m,.int .i64 y.h.f,.int .i64 y.h.t,.slice y.h.np y.h.nn y.h.nc,.slice y.h.kp y.h.kn y.h.kc] 96)).cell? ⟨S.g,3,none⟩=some (.int .i64 ((d:Int)+1)):=by
    rw [Rh.c3]; congr 2
   have f3:=Rh.free 3;have Uw:Below ((w3.setCell ⟨S.g,3,none⟩ (.int .i64 (d:Int)))).heap.size (w3.setCell ⟨S.g,3,none⟩ (.int .i64 (d:Int))) ((w3.setCell ⟨S.g,3,none⟩ (.int .i64 (d:Int))).alloc (.cells #[.int .i64 y.h.k,.int .i64 y.h.m,.int .i64 y.h.f,.int .i64 y.h.t,.slice y.h.np y.h.nn y.h.nc,.slice y.h.kp y.h.kn y.h.kc] 96)):=(Below.refl _ _).alloc (Nat.le_refl _) _;have Ux:Rd ((w3.setCell ⟨S.g,3,none⟩ (.int .i64 (d:Int))).alloc (.cells #[.int .i64 y.h.k,.int .i64 y.h.m,.int .i64 y.h.f,.int .i64 y.h.t,.slice y.h.np y.h.nn y.h.nc,.slice y.h.kp y.h.kn y.h.kc] 96)) S n1 d:=hr4.step Uw;have Gh:=(Uw.block w.heap.size (Array.getElem?_eq_some_iff.1 Rf).1).trans Rf;obtain ⟨gG,hgs⟩:=iq Gh (.int .i64 y.h.k) (.int .i64 y.h.m) (.int .i64 y.h.f) (.int .i64 y.h.t) (.slice y.h.np y.h.nn y.h.nc) (.slice y.h.kp y.h.kn y.h.kc);have hg4:w.grownBy ((w3.setCell ⟨S.g,3,none⟩ (.int .i64 (d:Int))).alloc (.cells #[.int .i64 y.h.k,.int .i64 y.h.m,.int .i64 y.h.f,.int .i64 y.h.t,.slice y.h.np y.h.nn y.h.nc,.slice y.h.kp y.h.kn y.h.kc] 96)) (some S.g):=ae (ae (ae HG2.out hg3) (aN _ _ _)) (grown_below Uw _);have hg5:w.grownBy ((((((((w3.setCell ⟨S.g,3,none⟩ (.int .i64 (d:Int))).alloc (.cells #[.int .i64 y.h.k,.int .i64 y.h.m,.int .i64 y.h.f,.int .i64 y.h.t,.slice y.h.np y.h.nn y.h.nc,.slice y.h.kp y.h.kn y.h.kc] 96)).setCell ⟨w.heap.size,0,none⟩ (.int .i64 y.h.k)).setCell ⟨w.heap.size,1,none⟩ (.int .i64 y.h.m)).setCell ⟨w.heap.size,2,none⟩ (.int .i64 y.h.f)).setCell ⟨w.heap.size,3,none⟩ (.int .i64 y.h.t)).setCell ⟨w.heap.size,4,none⟩ (.slice y.h.np y.h.nn y.h.nc)).setCell ⟨w.heap.size,5,none⟩ (.slice y.h.kp y.h.kn y.h.kc)) (some S.g):=dm hg4 hgs (fun q hq=>by have:=Option.some.inj hq; omega);have pG:Rd ((((((((w3.setCell ⟨S.g,3,none⟩ (.int .i64 (d:Int))).alloc (.cells #[.int .i64 y.h.k,.int .i64 y.h.m,.int .i64 y.h.f,.int .i64 y.h.t,.slice y.h.np y.h.nn y.h.nc,.slice y.h.kp y.h.kn y.h.kc] 96)).setCell ⟨w.heap.size,0,none⟩ (.int .i64 y.h.k)).setCell ⟨w.heap.size,1,none⟩ (.int .i64 y.h.m)).setCell ⟨w.heap.size,2,none⟩ (.int .i64 y.h.f)).setCell ⟨w.heap.size,3,none⟩ (.int .i64 y.h.t)).setCell ⟨w.heap.size,4,none⟩ (.slice y.h.np y.h.nn y.h.nc)).setCell ⟨w.heap.size,5,none⟩ (.slice y.h.kp y.h.kn y.h.kc)) S n1 d:=Ux.grow hgs (fun e=>by have:=Option.some.inj e; omega) (fun e=>by have:=Option.some.inj e; omega);have Uy:y.Lies (w3.setCell ⟨S.g,3,none⟩ (.int .i64 (d:Int))):=Br.Lies.kept (P:=fun q=>w2.heap.size≤q) y (by simp) (fun q hq _=>Below.heap_setCell _ _ _ _ (by simp only; omega)) hyo hyl;have qp:y.Lies ((((((((w3.setCell ⟨S.g,3,none⟩ (.int .i64 (d:Int))).alloc (.cells #[.int .i64 y.h.k,.int .i64 y.h.m,.int .i64 y.h.f,.int .i64 y.h.t,.slice y.h.np y.h.nn y.h.nc,.slice y.h.kp y.h.kn y.h.kc] 96)).setCell ⟨w.heap.size,0,none⟩ (.int .i64 y.h.k)).setCell ⟨w.heap.size,1,none⟩ (.int .i64 y.h.m)).setCell ⟨w.heap.size,2,none⟩ (.int .i64 y.h.f)).setCell ⟨w.heap.size,3,none⟩ (.int .i64 y.h.t)).setCell ⟨w.heap.size,4,none⟩ (.slice y.h.np y.h.nn y.h.nc)).setCell ⟨w.heap.size,5,none⟩ (.slice y.h.kp y.h.kn y.h.kc)):=Br.Lies.kept (P:=fun q=>w2.heap.size≤q) y hgs.size (fun q hq hlt=>hgs.block q hlt (fun e=>by have:=Option.some.inj e; omega)) hyo (Uy.step _ Uw)
   have d0:=cell_of_heap gG;have hcell:=cell_of_heap Gh;have r0:=hcell 0;have r1:=hcell 1;have r2:=hcell 2;have r3:=hcell 3;have r4:=hcell 4;have r5:=hcell 5;simp only [List.getElem?_toArray,List.getElem?_cons_zero,List.getElem?_cons_succ] at r0 r1 r2 r3 r4 r5;have hfr:∀ o,((w3.setCell ⟨S.g,3,none⟩ (.int .i64 (d:Int))).alloc (.cells #[.int .i64 y.h.k,.int .i64 y.h.m,.int .i64 y.h.f,.int .i64 y.h.t,.slice y.h.np y.h.nn y.h.nc,.slice y.h.kp y.h.kn y.h.kc] 96)).frozen? ⟨w.heap.size,o,none⟩=false:=fun o=>by simp [World.frozen?,Gh]
   have g0:=hfr 0;have g1:=hfr 1;have g2:=hfr 2;have g3:=hfr 3;have g4:=hfr 4;have g5:=hfr 5;have HD:=hid d0;have yD:Hid (Ends S d w o (RB w) (.returned y.h.val) ((((((((w3.setCell ⟨S.g,3,none⟩ (.int .i64 (d:Int))).alloc (.cells #[.int .i64 y.h.k,.int .i64 y.h.m,.int .i64 y.h.f,.int .i64 y.h.t,.slice y.h.np y.h.nn y.h.nc,.slice y.h.kp y.h.kn y.h.kc] 96)).setCell ⟨w.heap.size,0,none⟩ (.int .i64 y.h.k)).setCell ⟨w.heap.size,1,none⟩ (.int .i64 y.h.m)).setCell ⟨w.heap.size,2,none⟩ (.int .i64 y.h.f)).setCell ⟨w.heap.size,3,none⟩ (.int .i64 y.h.t)).setCell ⟨w.heap.size,4,none⟩ (.slice y.h.np y.h.nn y.h.nc)).setCell ⟨w.heap.size,5,none⟩ (.slice y.h.kp y.h.kn y.h.kc))):=hid (Or.inl ⟨x,n1,_,ho,rfl,⟨y,rfl,qp,hyo.mono (fun q hq=>by omega) _,hyp⟩,pG,hg5⟩);clear Ut XA Uu sU hr4 Rf gG hgs hg4 hg5 pG Uy qp Uw Ux d0 Rh Gh hcell hfr ho hyl hyo hyp hr3 hg3
   go_wp2_with fail
   have dd:=HD.out;have d0:=dd 0;have d1:=dd 1;have d2:=dd 2;have d3:=dd 3;have d4:=dd 4;have d5:=dd 5;simp only [List.getElem?_toArray,List.getElem?_cons_zero,List.getElem?_cons_succ] at d0 d1 d2 d3 d4 d5;refine bodyPost_ret (by simp [results,results228,go_sem,d0,d1,d2,d3,d4,d5,Result.andThen]; try rfl) rfl ?_
   exact yD.out
  ·exact ⟨rfl,Or.inr ⟨ch,ho,rfl,ae HG2.out hg3⟩⟩
theorem zn:(prog.info? 96).map (fun i=>(i.zero,i.size,i.bytes))=some (some (.agg #[.int .i64 0,.int .i64 0,.int .i64 0,.int .i64 0,.slice none 0 0,.slice none 0 0]),6,80):=by kernel_rfl
def Kids (N:Nat) (v:Value) (w:World) (ys:List Br):Prop:=∀ y ∈ ys,y.Lies w∧y.On fun q=>N≤q∧some q≠v.ownBlock
theorem Kids.grow {N:Nat} {v:Value} {w w':World} {ys:List Br} {g:Nat} (h:Kids N v w ys) (hg:w.grownBy w' (some g)) (hlt:g < N):Kids N v w' ys:=fun y hy=>by
 obtain ⟨h1,h2⟩:=h y hy;exact ⟨Br.Lies.kept (P:=fun q=>N≤q∧some q≠v.ownBlock) y hg.size (fun q hq hl=>hg.block q hl (fun e=>by have:=Option.some.inj e; omega)) h2 h1,h2⟩
theorem Kids.step {N:Nat} {v:Value} {w w':World} {ys:List Br} (h:Kids N v w ys) (hb:Below w.heap.size w w'):Kids N v w' ys:=fun y hy=>⟨(h y hy).1.step _ hb,(h y hy).2⟩
theorem vN {N:Nat} {w w1:World} {y:Br} {o:Obj} (hN:N≤w.heap.size) (hyl:y.Lies w1) (hyo:y.On fun q=>w.heap.size≤q) (n c:Nat):Kids N (.slice (some ⟨w1.heap.size,0,none⟩) n c) (w1.alloc o) [y]:=fun b hb=>by
 obtain rfl:=List.mem_singleton.1 hb;refine ⟨hyl.step _ ((Below.refl _ _).alloc (Nat.le_refl _) o),(Br.On.low b hyo hyl).mono (fun q hq=>⟨by omega,fun e=>?_⟩) _⟩
 have:q=w1.heap.size:=by simpa [Value.ownBlock] using e
 omega
theorem rX {N g5:Nat} {v v5:Value} {wr w3 w5:World} {ys:List Br} {y:Br} {o:Obj} (hK:Kids N v w3 ys) (hvb:∀ q,v.ownBlock=some q→q < wr.heap.size) (hN:N≤wr.heap.size) (hs3:wr.heap.size≤w3.heap.size)
  (hgrow:(w3.alloc o).grownBy w5 v.ownBlock) (hat:v.ownBlock=some g5∨g5=w3.heap.size+1) (h5:v5.ownBlock=some g5) (hyl:y.Lies w3) (hyo:y.On fun q=>wr.heap.size≤q):Kids N v5 w5 (ys++[y]):=by
 have hB:Below w3.heap.size w3 (w3.alloc o):=(Below.refl _ _).alloc (Nat.le_refl _) o;have key:∀ b:Br,b.Lies (w3.alloc o)→(b.On fun k=>some k≠v.ownBlock)→b.Lies w5:=fun b hl ho =>
  Br.Lies.kept (P:=fun k=>some k≠v.ownBlock) b hgrow.size (fun k hk hlt=>hgrow.block k hlt hk) ho hl
 intro b hb
 rcases List.mem_append.1 hb with hb | hb
 ·obtain ⟨hl,ho⟩:=hK b hb
  refine ⟨key b (hl.step _ hB) (ho.mono (fun k hk=>hk.2) _),(Br.On.low b ho hl).mono (fun k hk=>⟨hk.1.1,fun he=>?_⟩) _⟩
  rw [h5] at he
  rcases hat with h | h
  ·exact hk.1.2 (he.trans h.symm)
  ·have:=Option.some.inj he
   have:=hk.2
   omega
 ·obtain rfl:=List.mem_singleton.1 hb
  have hlow:=Br.On.low b hyo hyl;refine ⟨key b (hyl.step _ hB) (hyo.mono (fun k hk=>fun he=>?_) _),hlow.mono (fun k hk=>⟨by omega,fun he=>?_⟩) _⟩
  ·have:=hvb k he.symm
   omega
  ·rw [h5] at he
   have hkg:=Option.some.inj he
   rcases hat with h | h
   ·have:=hvb g5 h
    omega
   ·omega
def RK (w0:World):List Pb→Value→World→Prop:=fun l v w'=>∃ ys:List Br,w'.ownsRow w0.heap.size 96 6 v ys.length (bg ys)∧Kids w0.heap.size v w' ys∧ys.map Br.pb=l
set_option maxHeartbeats 8000000 in
theorem kH (m:Nat) (cap:Array Value) (hcf:∀ args w,Sem.run prog (callFunc m args) w=.ok (.enter m args) w) (S:Src) (F n d:Nat) (t:ByteArray) (read:Nat→Out Pb) (w:World) (h:Rd w S n d) (ht:t.data.toList≠[]) (hF:F≤1000000000)
  (hread:∀ k w',Rd w' S k d→w.grownBy w' (some S.g)→read k≠.dry→Calls prog m (#[.pointer (some ⟨S.g,0,none⟩)]++cap) w' (fun e w''=>Ends S d w' (read k) (RB w') e w''))
  (aG:gK S F t.data.toList read n≠.dry) :
  Calls prog 233 #[.pointer (some ⟨S.g,0,none⟩),.string t,.func (.func m) #[] cap] w fun e w'=>Ends S d w (gK S F t.data.toList read n) (RK w) e w':=by
 obtain ⟨i0,hi0,hy0,hy1,hy2⟩:=info_parts zn;have hgl:=h.lt;have aW:=h.row;have eQ:=hid aG;have HX0:=hid (hread n w h (dU _ _) (aA aG));have Ri:=hid hread;obtain ⟨tot,htot⟩:∃ tot,tot=gK S F t.data.toList read n:=⟨_,rfl⟩
 rw [← htot] at eQ ⊢;have dW:=hid htot;have XC:=hid ht;clear htot h aG hread ht
 go_enter func233,ntmps233
 go_wp2_with fail
 refine HX0.out.mono ?_
 rintro e w1 (⟨b1,n1,v,hpo,rfl,⟨y,rfl,hyl,hyo,hyp⟩,hr,hg⟩ | ⟨ch,ho,rfl,hg⟩)
 ·have HL:Hid (tot=nX S t.data.toList read F ([y].map Br.pb) n1):=hid (by rw [dW.out]; unfold gK; rw [hpo,List.map_cons,List.map_nil,hyp]; rfl)
  have hB1:Below w1.heap.size w1 (w1.alloc (.cells #[.int .i64 y.h.k,.int .i64 y.h.m,.int .i64 y.h.f,.int .i64 y.h.t,.slice y.h.np y.h.nn y.h.nc,.slice y.h.kp y.h.kn y.h.kc] 96)):=(Below.refl _ _).alloc (Nat.le_refl _) _;have HR1:=hid (hr.step hB1);have zY:=hid (ae hg (grown_below hB1 (some S.g)));have Oc:Hid ((w1.alloc (.cells #[.int .i64 y.h.k,.int .i64 y.h.m,.int .i64 y.h.f,.int .i64 y.h.t,.slice y.h.np y.h.nn y.h.nc,.slice y.h.kp y.h.kn y.h.kc] 96)).ownsRow w.heap.size 96 6 (.slice (some ⟨w1.heap.size,0,none⟩) 1 1) 1 (bg [y])):=hid (dB (heap_alloc_new w1 _) hg.size rfl (by unfold maxLen; omega));have zT:Hid (Kids w.heap.size (.slice (some ⟨w1.heap.size,0,none⟩) 1 1) (w1.alloc (.cells #[.int .i64 y.h.k,.int .i64 y.h.m,.int .i64 y.h.f,.int .i64 y.h.t,.slice y.h.np y.h.nn y.h.nc,.slice y.h.kp y.h.kn y.h.kc] 96)) [y]):=hid (vN (Nat.le_refl _) hyl hyo 1 1);clear hpo hyl hyo hyp hr hg hB1
  go_wp2_with fail
  go_loopg [7] F (fun gk v7 wr=>∃ (ys:List Br) (i:Nat) (p7:Option Addr) (c7:Nat),v7=.slice p7 ys.length c7∧ys.length+gk=F+1∧Hid (tot=nX S t.data.toList read gk (ys.map Br.pb) i)∧Hid (wr.ownsRow w.heap.size 96 6 (.slice p7 ys.length c7) ys.length (bg ys))∧Hid (Kids w.heap.size (.slice p7 ys.length c7) wr ys)∧Hid (Rd wr S i d)∧w.grownBy wr (some S.g))
  case atStart=>exact ⟨[y],n1,_,_,rfl,by simp; omega,HL,Oc,zT,HR1,zY.out⟩
  case round =>
   obtain ⟨ys,i,p7,c7,rfl,hal,HL2,HO,HK,Gf,hgr⟩:=hrel;have qj:=hid hgr;have zZ:=hgr.size;clear hgr
   cases gk with
   | zero=>exact absurd HL2.out (by intro e; exact eQ.out e)
   | succ gk =>
   have yz:=HL2.out;simp only [nX] at yz;have rC:=hid yz;have HP:=hid (aC S i d t wr Gf.out XC.out);clear yz HL2
   cases hm:S.is i t.data.toList <;> rw [hm] at HP
   ·have iw:Hid (tot=.ok (ys.map Br.pb) i):=hid (by rw [rC.out,hm]; rfl)
    clear hm rC
    go_wp2_with fail
    refine HP.out.mono ?_
    rintro e w2 ⟨rfl,hr2,hg2⟩;have mr:=hid (HO.out.kept hg2 (Or.inr (fun e=>by have:=(HO.out.lt _ e).1; omega)));have JY:=hid (HK.out.grow hg2 hgl);have HR2:=hid hr2;have HG2:=hid (ae qj.out hg2);clear hr2 hg2
    go_wp2_with fail
    go_ret
    exact Or.inl ⟨_,i,_,iw.out,rfl,⟨ys,mr.out,JY.out,rfl⟩,HR2.out,HG2.out⟩
   ·have iw:Hid (tot=(read (i+1)).bind fun b n'=>nX S t.data.toList read gk (ys.map Br.pb++[b]) n'):=hid (by rw [rC.out,hm]; rfl)
    have JO:Hid (read (i+1)≠.dry):=hid (aA (by rw [← iw.out]; exact eQ.out));clear hm rC
    go_wp2_with fail
    refine HP.out.mono ?_
    rintro e w2 ⟨rfl,hr2,hg2⟩;have mr:=hid (HO.out.kept hg2 (Or.inr (fun e=>by have:=(HO.out.lt _ e).1; omega)));have JY:=hid (HK.out.grow hg2 hgl);have HG2:=hid (ae qj.out hg2);have hz2:=HG2.out.size;have HX:=hid (Ri.out (i+1) w2 hr2 HG2.out JO.out);clear hr2 hg2
    go_wp2_with fail
    refine HX.out.mono ?_
    rintro e w3 (⟨b3,n3,v,hpo,rfl,⟨y3,rfl,hyl,hyo,hyp⟩,hr3,hg3⟩ | ⟨ch,ho,rfl,hg3⟩)
    ·have hz3:=hg3.size
     have Ul:Hid (tot=nX S t.data.toList read gk ((ys++[y3]).map Br.pb) n3):=hid (by rw [iw.out,hpo,List.map_append,List.map_cons,List.map_nil,hyp]; rfl);have hB4:Below w3.heap.size w3 (w3.alloc (.cells #[.int .i64 y3.h.k,.int .i64 y3.h.m,.int .i64 y3.h.f,.int .i64 y3.h.t,.slice y3.h.np y3.h.nn y3.h.nc,.slice y3.h.kp y3.h.kn y3.h.kc] 96)):=(Below.refl _ _).alloc (Nat.le_refl _) _;have hO3:=mr.out.kept hg3 (Or.inr (fun e=>by have:=(mr.out.lt _ e).1; omega));have yB:=hid (ownsRow_below hO3 hB4);have Rj:=hid (JY.out.grow hg3 hgl);have HR4:=hid (hr3.step hB4);have rD:=hid (ae (ae HG2.out hg3) (grown_below hB4 (some S.g)));have TV:=hid (World.news_of_block (heap_alloc_new w3 (.cells #[.int .i64 y3.h.k,.int .i64 y3.h.m,.int .i64 y3.h.f,.int .i64 y3.h.t,.slice y3.h.np y3.h.nn y3.h.nc,.slice y3.h.kp y3.h.kn y3.h.kc] 96)));have yA:=hid (fun q hq=>(yB.out.lt q hq).1);have XD:=hid (fun q hq=>(mr.out.lt q hq).2);have sV:=hid hyl;have rW:=hid hyo;have Qs:w.heap.size≤w3.heap.size:=by omega
     clear hpo hyl hyo hyp hr3 hg3 hO3 hB4;generalize Aa:ys.length=al at *;have JU:=hid Aa;clear Aa
     go_wp2_with (at_builtin; refine wpList_append_lies _ rfl _ _ 94 rfl w.heap.size 96 i0 _ 6 80 underlying94 hi0 hy0 hy1 hy2 rfl (by omega) _ al _ rfl yB.out ⟨w3.heap.size,0,none⟩ 1 1 (hcells y3.h) rfl rfl TV.out (qc y3.h) (by omega) (by unfold maxLen; omega) (by omega) (by simp; omega) (w3.heap.size+1) (by simp) ?_)
     intro g5 c5 w5 hown5 jT JZ Rk;have hall:(ys++[y3]).length=al+1:=by simp [JU.out]
     have Qr:w5.ownsRow w.heap.size 96 6 (.slice (some ⟨g5,0,none⟩) (ys++[y3]).length c5) (ys++[y3]).length (bg (ys++[y3])):=by
      rw [hall,ji]; simpa [bg] using hown5
     have jS:=hid Qr;have pI:=hid (rX (v5:=.slice (some ⟨g5,0,none⟩) (ys++[y3]).length c5) Rj.out XD.out hz2 hz3 jT JZ rfl sV.out rW.out);have jP:=hid (HR4.out.grow jT (fun e=>by have:=yA.out _ e; omega) (fun e=>by have:=yA.out _ e; omega));have nK:=hid (dm rD.out jT yA.out);clear hown5 jT JZ Rk Qr
     go_wp2_with fail
     go_roundg gk
     case measure=>omega
     case rel=>exact ⟨ys++[y3],n3,_,c5,by rw [hall],by rw [hall]; omega,Ul,jS,pI,jP,nK.out⟩
    ·exact ⟨rfl,Or.inr ⟨ch,by rw [iw.out]; exact ai ho,rfl,ae HG2.out hg3⟩⟩
 ·exact ⟨rfl,Or.inr ⟨ch,by rw [dW.out]; exact ai ho,rfl,hg⟩⟩
abbrev aH:Obj:=(.cells #[.int .i64 0,.int .i64 0,.int .i64 0,.int .i64 0,.slice none 0 0,.slice none 0 0] 96)
structure TL (S:Src) (d:Nat) (w wr:World) (o:Out Pb) (k m f t:Int) (np:Option Addr) (nn nc:Nat) (kp:Option Addr) (kn kc:Nat):Prop where
 c0:wr.cell? ⟨w.heap.size,0,none⟩=some (.int .i64 0)
 c1:wr.cell? ⟨w.heap.size,1,none⟩=some (.int .i64 0)
 c2:wr.cell? ⟨w.heap.size,2,none⟩=some (.int .i64 0)
 c3:wr.cell? ⟨w.heap.size,3,none⟩=some (.int .i64 0)
 c4:wr.cell? ⟨w.heap.size,4,none⟩=some (.slice none 0 0)
 c5:wr.cell? ⟨w.heap.size,5,none⟩=some (.slice none 0 0)
 fz:∀ i,wr.frozen? ⟨w.heap.size,i,none⟩=false
 d0:((((((wr.setCell ⟨w.heap.size,0,none⟩ (.int .i64 k)).setCell ⟨w.heap.size,1,none⟩ (.int .i64 m)).setCell ⟨w.heap.size,2,none⟩ (.int .i64 f)).setCell ⟨w.heap.size,3,none⟩ (.int .i64 t)).setCell ⟨w.heap.size,4,none⟩ (.slice np nn nc)).setCell ⟨w.heap.size,5,none⟩ (.slice kp kn kc)).cell? ⟨w.heap.size,0,none⟩=some (.int .i64 k)
 d1:((((((wr.setCell ⟨w.heap.size,0,none⟩ (.int .i64 k)).setCell ⟨w.heap.size,1,none⟩ (.int .i64 m)).setCell ⟨w.heap.size,2,none⟩ (.int .i64 f)).setCell ⟨w.heap.size,3,none⟩ (.int .i64 t)).setCell ⟨w.heap.size,4,none⟩ (.slice np nn nc)).setCell ⟨w.heap.size,5,none⟩ (.slice kp kn kc)).cell? ⟨w.heap.size,1,none⟩=some (.int .i64 m)
 d2:((((((wr.setCell ⟨w.heap.size,0,none⟩ (.int .i64 k)).setCell ⟨w.heap.size,1,none⟩ (.int .i64 m)).setCell ⟨w.heap.size,2,none⟩ (.int .i64 f)).setCell ⟨w.heap.size,3,none⟩ (.int .i64 t)).setCell ⟨w.heap.size,4,none⟩ (.slice np nn nc)).setCell ⟨w.heap.size,5,none⟩ (.slice kp kn kc)).cell? ⟨w.heap.size,2,none⟩=some (.int .i64 f)
 d3:((((((wr.setCell ⟨w.heap.size,0,none⟩ (.int .i64 k)).setCell ⟨w.heap.size,1,none⟩ (.int .i64 m)).setCell ⟨w.heap.size,2,none⟩ (.int .i64 f)).setCell ⟨w.heap.size,3,none⟩ (.int .i64 t)).setCell ⟨w.heap.size,4,none⟩ (.slice np nn nc)).setCell ⟨w.heap.size,5,none⟩ (.slice kp kn kc)).cell? ⟨w.heap.size,3,none⟩=some (.int .i64 t)
 d4:((((((wr.setCell ⟨w.heap.size,0,none⟩ (.int .i64 k)).setCell ⟨w.heap.size,1,none⟩ (.int .i64 m)).setCell ⟨w.heap.size,2,none⟩ (.int .i64 f)).setCell ⟨w.heap.size,3,none⟩ (.int .i64 t)).setCell ⟨w.heap.size,4,none⟩ (.slice np nn nc)).setCell ⟨w.heap.size,5,none⟩ (.slice kp kn kc)).cell? ⟨w.heap.size,4,none⟩=some (.slice np nn nc)
 d5:((((((wr.setCell ⟨w.heap.size,0,none⟩ (.int .i64 k)).setCell ⟨w.heap.size,1,none⟩ (.int .i64 m)).setCell ⟨w.heap.size,2,none⟩ (.int .i64 f)).setCell ⟨w.heap.size,3,none⟩ (.int .i64 t)).setCell ⟨w.heap.size,4,none⟩ (.slice np nn nc)).setCell ⟨w.heap.size,5,none⟩ (.slice kp kn kc)).cell? ⟨w.heap.size,5,none⟩=some (.slice kp kn kc)
 fin:Ends S d w o (RB w) (.returned (.agg #[.int .i64 k,.int .i64 m,.int .i64 f,.int .i64 t,.slice np nn nc,.slice kp kn kc])) ((((((wr.setCell ⟨w.heap.size,0,none⟩ (.int .i64 k)).setCell ⟨w.heap.size,1,none⟩ (.int .i64 m)).setCell ⟨w.heap.size,2,none⟩ (.int .i64 f)).setCell ⟨w.heap.size,3,none⟩ (.int .i64 t)).setCell ⟨w.heap.size,4,none⟩ (.slice np nn nc)).setCell ⟨w.heap.size,5,none⟩ (.slice kp kn kc))
theorem TL.al {S:Src} {d:Nat} {w wr:World} {o:Out Pb} {k m f t:Int} {np:Option Addr} {nn nc:Nat} {kp:Option Addr} {kn kc:Nat} (h:TL S d w wr o k m f t np nn nc kp kn kc):wr.cell? ⟨w.heap.size,0,none⟩=some (.int .i64 0)∧wr.cell? ⟨w.heap.size,1,none⟩=some (.int .i64 0)∧wr.cell? ⟨w.heap.size,2,none⟩=some (.int .i64 0)∧wr.cell? ⟨w.heap.size,3,none⟩=some (.int .i64 0)∧wr.cell? ⟨w.heap.size,4,none⟩=some (.slice none 0 0)∧wr.cell? ⟨w.heap.size,5,none⟩=some (.slice none 0 0)∧wr.frozen? ⟨w.heap.size,0,none⟩=false∧wr.frozen? ⟨w.heap.size,1,none⟩=false∧wr.frozen? ⟨w.heap.size,2,none⟩=false∧wr.frozen? ⟨w.heap.size,3,none⟩=false∧wr.frozen? ⟨w.heap.size,4,none⟩=false∧wr.frozen? ⟨w.heap.size,5,none⟩=false:=⟨h.c0,h.c1,h.c2,h.c3,h.c4,h.c5,h.fz 0,h.fz 1,h.fz 2,h.fz 3,h.fz 4,h.fz 5⟩
theorem bH {S:Src} {n d:Nat} {w wr:World} {o:Out Pb} (b:Pb) (k m f t:Int) (np:Option Addr) (nn nc:Nat) (ns:List Int) (kp:Option Addr) (kn kc:Nat) (ys:List Br) (hr:Rd wr S n d) (hg:(w.alloc aH).grownBy wr (some S.g)) (hgl:S.g < w.heap.size) (hgw:S.gw < w.heap.size)
  (ho:o=.ok b n) (hyl:Br.Lies wr (.mk ⟨k,m,f,t,np,nn,nc,ns,kp,kn,kc⟩ ys)) (hyo:Br.On (fun q=>w.heap.size+1≤q) (.mk ⟨k,m,f,t,np,nn,nc,ns,kp,kn,kc⟩ ys)) (hyp:Br.pb (.mk ⟨k,m,f,t,np,nn,nc,ns,kp,kn,kc⟩ ys)=b):TL S d w wr o k m f t np nn nc kp kn kc:=by
 have hrb:=(hg.block w.heap.size (by simp) (fun e=>by have:=Option.some.inj e; omega)).trans (heap_alloc_new w aH);obtain ⟨gG,hgs⟩:=iq hrb (.int .i64 k) (.int .i64 m) (.int .i64 f) (.int .i64 t) (.slice np nn nc) (.slice kp kn kc);have hcell:=cell_of_heap hrb;have hcell2:=cell_of_heap gG;have hg1:w.grownBy wr (some S.g):=ae (grown_below ((Below.refl _ _).alloc (Nat.le_refl _) _) _) hg;refine ⟨hcell 0,hcell 1,hcell 2,hcell 3,hcell 4,hcell 5,fun i=>by simp [World.frozen?,hrb],hcell2 0,hcell2 1,hcell2 2,hcell2 3,hcell2 4,hcell2 5,Or.inl ⟨b,n,_,ho,rfl,⟨_,rfl,?_,hyo.mono (fun q hq=>by omega) _,hyp⟩,?_,?_⟩⟩
 ·exact Br.Lies.kept (P:=fun q=>w.heap.size+1≤q) _ hgs.size (fun q hq hlt=>hgs.block q hlt (fun e=>by have:=Option.some.inj e; omega)) hyo hyl
 ·exact hr.grow hgs (fun e=>by have:=Option.some.inj e; omega) (fun e=>by have:=Option.some.inj e; omega)
 ·exact dm hg1 hgs (fun q hq=>by have:=Option.some.inj hq; omega)
theorem lV (w:World) (k m f t:Int):Br.Lies w (.mk ⟨k,m,f,t,none,0,0,[],none,0,0⟩ []):=by
 rw [aO];exact ⟨⟨rfl,.inl rfl⟩,⟨rfl,.inl rfl⟩,fun x hx=>by cases hx⟩
theorem qP (P:Nat→Prop) (k m f t:Int):Br.On P (.mk ⟨k,m,f,t,none,0,0,[],none,0,0⟩ []):=by
 rw [iO];exact ⟨fun a h=>absurd rfl h,fun a h=>absurd rfl h,fun x hx=>by cases hx⟩
theorem bM {w w0 w1:World} {np:Option Addr} {nn nc:Nat} {l:List Nat} {kp:Option Addr} {kn kc:Nat} {ys:List Br} {N:Nat} (k m f t:Int) (hn:w.ownsRow N 3 1 (.slice np nn nc) l.length (l.map mkN)) (hk:w.ownsRow N 96 6 (.slice kp kn kc) ys.length (bg ys)) (hK:Kids N (.slice kp kn kc) w ys) :
  Br.Lies w (.mk ⟨k,m,f,t,np,nn,nc,l.map (fun x:Nat=>(x:Int)),kp,kn,kc⟩ ys)∧Br.On (fun q=>N≤q) (.mk ⟨k,m,f,t,np,nn,nc,l.map (fun x:Nat=>(x:Int)),kp,kn,kc⟩ ys):=by
 have e:l.map mkN=(l.map (fun x:Nat=>(x:Int))).map mkI:=by simp [Function.comp_def]
 have hn':=hn;rw [e] at hn';obtain ⟨p,c,hv,hin⟩:=xJ hn' (by simp)
 injection hv with h1 h2 h3
 subst h1 h2 h3;obtain ⟨p',c',hv',J3⟩:=AV hk rfl
 injection hv' with h1 h2 h3
 subst h1 h2 h3;refine ⟨(aO _ _).2 ⟨hin,J3,fun x hx=>(hK x hx).1⟩,(iO _ _).2 ⟨fun a _ ha=>?_,fun a _ ha=>?_,fun x hx=>(hK x hx).2.mono (fun q hq=>hq.1) _⟩⟩
 ·simp only [Br.h] at ha; subst ha; exact (hn.lt _ rfl).1
 ·simp only [Br.h] at ha; subst ha; exact (hk.lt _ rfl).1
theorem gY {w:World} {N:Nat}:w.ownsRow N 96 6 (.slice none 0 0) ([]:List Br).length (bg [])∧Kids N (.slice none 0 0) w []:=⟨World.ownsRow_nil _ _ _ _,fun y hy=>by cases hy⟩
theorem fK {w:World} {N:Nat}:w.ownsRow N 3 1 (.slice none 0 0) ([]:List Nat).length (([]:List Nat).map mkN):=World.ownsRow_nil _ _ _ _
theorem MN {l:List Pb} (h:∀ b,l≠[b]) (f:Pb→Out Pb) (g:Out Pb):qH l f g=g:=by
 match l,h with
 | [],_=>rfl
 | [b],h=>exact absurd rfl (h b)
 | a :: b :: r,_=>rfl
theorem bind_ok {α β:Type} {a:α} {n:Nat} {f:α→Nat→Out β}:(Out.ok a n).bind f=f a n:=rfl
structure Said (S:Src) (rec:Nt→Nat→Nat→Out Pb) (d:Nat):Prop where
 ty:∀ k w,Rd w S k d→rec .ty d k≠.dry→Calls prog 236 #[.pointer (some ⟨S.g,0,none⟩)] w fun e w'=>Ends S d w (rec .ty d k) (RB w) e w'
 exp:∀ k w,Rd w S k d→rec .exp d k≠.dry→Calls prog 232 #[.pointer (some ⟨S.g,0,none⟩)] w fun e w'=>Ends S d w (rec .exp d k) (RB w) e w'
 pat:∀ k w,Rd w S k d→rec .pat d k≠.dry→Calls prog 230 #[.pointer (some ⟨S.g,0,none⟩)] w fun e w'=>Ends S d w (rec .pat d k) (RB w) e w'
 sig:∀ k w,Rd w S k d→rec .sig d k≠.dry→Calls prog 240 #[.pointer (some ⟨S.g,0,none⟩)] w fun e w'=>Ends S d w (rec .sig d k) (RB w) e w'
 str:∀ k w,Rd w S k d→rec .str d k≠.dry→Calls prog 301 #[.pointer (some ⟨S.g,0,none⟩)] w fun e w'=>Ends S d w (rec .str d k) (RB w) e w'
 dec:∀ (a k:Nat) w,Rd w S k d→declares S a k=true→rec (.dec a) d k≠.dry→Calls prog 174 #[.pointer (some ⟨S.g,0,none⟩),.int .i64 (a:Int)] w fun e w'=>Ends S d w (rec (.dec a) d k) (RB w) e w'
theorem Zp (args:Array Value) (w:World):Sem.run prog (callFunc 236 args) w=.ok (.enter 236 args) w:=aV func236 (by kernel_rfl) (by kernel_rfl) args w
set_option maxHeartbeats 4000000 in
theorem zD (S:Src) (F:Nat) (rec:Nt→Nat→Nat→Out Pb) (d:Nat) (hs:Said S rec d) (hF:F≤1000000000) (n:Nat) (w:World) (h:Rd w S n d) (aG:dZ S F rec d n≠.dry) :
  Calls prog 307 #[.pointer (some ⟨S.g,0,none⟩)] w fun e w'=>Ends S d w (dZ S F rec d n) (RB w) e w':=by
 have hgl:=h.lt;have aW:=h.row;have hbd:=h.bound;have hb1:Below w.heap.size w (w.alloc aH):=(Below.refl w.heap.size w).alloc (Nat.le_refl _) _;have hr1:=h.step hb1;have HR1:=hid hr1;have q2:=hr1.c2;have zT:=hid (bG S n d _ hr1);unfold dZ at aG ⊢;have HS:=hid hs;have HMK:=hid (fun (w':World) (hr:Rd w' S n d)=>hr.moreK);clear hr1 hb1 h hs
 cases h8:(S.kd n == 8)
 ·rw [h8] at aG
  simp only [cond_false] at aG ⊢
  cases hp:S.is n [40]
  ·rw [hp] at aG
   simp only [cond_false] at aG ⊢;have eQ:=hid aG;clear aG
   go_enter func307,ntmps307
   go_wp2_with fail
   refine zT.out.mono ?_
   rintro e w2 ⟨rfl,hb2⟩;have hr2:=HR1.out.step hb2;have HG2:=hid (grown_below hb2 (some S.g));have HP:=hid (aC S n d ⟨#[40]⟩ w2 hr2 (by simp))
   simp only at HP
   rw [hp] at HP;clear hr2 hb2
   go_wp2_with fail
   refine HP.out.mono ?_
   rintro e w3 ⟨rfl,hr3,hg3⟩;have iQ:=hid (ae HG2.out hg3);have HT:=hid (fA S n d w3 hr3 (aA eQ.out));clear hr3 hg3
   go_wp2_with fail
   refine HT.out.mono ?_
   rintro e w4 (⟨p,n4,v,hpo,rfl,hv,hr4,hg4⟩ | ⟨ch,ho,rfl,hg4⟩)
   ·obtain ⟨np,nn,nc,rfl⟩:=hv.form
    have rD:=hid (ae iQ.out hg4);have HV:=hid (own_base (base':=w.heap.size+1) hv (by have:=iQ.out.size; simpa using this));have qi:=hid hpo;have HR4:=hid hr4;have HB:=hid (az S n4 d 42 n np nn nc none 0 0 w4 hr4);clear hpo hv hr4 hg4
    go_wp2_with fail
    refine HB.out.mono ?_
    rintro e w5 ⟨rfl,hb5⟩;have HL:=bM (w0:=w) (w1:=w) 42 0 n n4 (ownsRow_below HV.out hb5) gY.1 gY.2;have FIN:=hid (bH (o:=(S.typePath n).bind fun p n1=>Out.ok (node 42 n n1 p []) n1) (node 42 n n4 p []) 42 0 n n4 np nn nc _ none 0 0 [] (HR4.out.step hb5) (ae rD.out (grown_below hb5 _)) hgl aW (by rw [qi.out]; rfl) HL.1 HL.2 (by simp [Br.pb,pbs,node]));clear HL hb5;obtain ⟨c0,c1,c2,c3,c4,c5,f0,f1,f2,f3,f4,f5⟩:=FIN.out.al
    go_wp2_with fail
    obtain ⟨_,_,_,_,_,_,_,d0,d1,d2,d3,d4,d5,hfin⟩:=FIN.out;refine bodyPost_ret (by simp [results,results307,go_sem,d0,d1,d2,d3,d4,d5,Result.andThen]; try rfl) rfl ?_
    exact hfin
   ·exact ⟨rfl,Or.inr ⟨ch,ai ho,rfl,ae (grown_below ((Below.refl _ _).alloc (Nat.le_refl _) _) _) (ae iQ.out hg4)⟩⟩
  ·rw [hp] at aG
   simp only [cond_true] at aG ⊢;have eQ:=hid aG;clear aG
   go_enter func307,ntmps307
   go_wp2_with fail
   refine zT.out.mono ?_
   rintro e w2 ⟨rfl,hb2⟩;have hr2:=HR1.out.step hb2;have HG2:=hid (grown_below hb2 (some S.g));have HP:=hid (aC S n d ⟨#[40]⟩ w2 hr2 (by simp))
   simp only at HP
   rw [hp] at HP;clear hr2 hb2
   go_wp2_with fail
   refine HP.out.mono ?_
   rintro e w3 ⟨rfl,hr3,hg3⟩;have iQ:=hid (ae HG2.out hg3);have HW:=hid (kH 236 #[] Zp S F (n+1) d ⟨#[44]⟩ (rec .ty d) w3 hr3 (by simp) hF (fun k w' hr _ hnd=>HS.out.ty k w' hr hnd) (aA eQ.out));clear hr3 hg3
   go_wp2_with fail
   refine HW.out.mono ?_
   rintro e w4 (⟨l,n4,v,hpo,rfl,⟨ys,hown,hK,hmap⟩,hr4,hg4⟩ | ⟨ch,ho,rfl,hg4⟩)
   ·obtain ⟨kp,kc,rfl⟩:=dP hown
    have hz3:w.heap.size+1≤w3.heap.size:=by have:=iQ.out.size; simpa using this
    have rD:=hid (ae iQ.out hg4);have yB:=hid (own_base (base':=w.heap.size+1) hown hz3);have TW:Hid (Kids (w.heap.size+1) (.slice kp ys.length kc) w4 ys):=hid (fun y hy=>⟨(hK y hy).1,(hK y hy).2.mono (fun q hq=>⟨by omega,hq.2⟩) _⟩);have qi:=hid hpo;have mD:=hid hmap;have JO:=hid (aA (o:=S.need [41] n4) (by rw [hpo] at eQ; exact eQ.out));have HN:=hid (bF S n4 d ⟨#[41]⟩ w4 hr4 (by simp));clear hpo hown hK hmap hr4 hg4
    go_wp2_with fail
    refine HN.out.mono ?_
    rintro e w5 (⟨u,n5,v,J4,rfl,hv,pG,hg5⟩ | ⟨ch,ho,rfl,hg5⟩)
    ·obtain rfl:v=.tuple #[]:=hv
     have jS:=hid (yB.out.kept hg5 (Or.inr (fun e=>by have:=(yB.out.lt _ e).1; omega)));have pI:=hid (TW.out.grow hg5 (by omega));have nK:=hid (ae rD.out hg5);have jP:=hid pG;have J5:=hid J4;clear J4 pG hg5
     by_cases h1:ys.length=1
     ·obtain ⟨y,rfl⟩:=List.length_eq_one_iff.1 h1
      obtain ⟨yh,yks⟩:=y;obtain ⟨yk,ym,yf,yt,ynp,ynn,ync,yns,ykp,ykn,ykc⟩:=yh;obtain ⟨gk,ck,hvk,_,hgk,_,_⟩:=iJ jS.out (by simp)
      injection hvk with hk1 hk2 hk3
      subst hk1 hk3;have cell:=fun j u hu=>fQ jS.out j u hu
      have e0:=cell 0 _ rfl;have e1:=cell 1 _ rfl;have e2:=cell 2 _ rfl;have e3:=cell 3 _ rfl;have e4:=cell 4 _ rfl;have e5:=cell 5 _ rfl;simp only [Br.h] at e0 e1 e2 e3 e4 e5;obtain ⟨hyl,hyo⟩:=pI.out _ (List.mem_singleton.2 rfl);have FIN:=hid (bH (o:=(gK S F [44] (rec .ty d) (n+1)).bind fun l n1=>(S.need [41] n1).bind fun _ n2=>qH l (fun b=>Out.ok b n2) ((S.typePath n2).bind fun p n3=>Out.ok (node 42 n n3 p l) n3)) _ yk ym yf yt ynp ynn ync yns ykp ykn ykc yks jP.out nK.out hgl aW (by rw [qi.out,bind_ok,J5.out,bind_ok,← mD.out]; rfl) hyl (hyo.mono (fun q hq=>hq.1) _) rfl);clear cell hyl hyo h1;obtain ⟨c0,c1,c2,c3,c4,c5,f0,f1,f2,f3,f4,f5⟩:=FIN.out.al
      go_wp2_with fail
      obtain ⟨_,_,_,_,_,_,_,d0,d1,d2,d3,d4,d5,hfin⟩:=FIN.out;refine bodyPost_ret (by simp [results,results307,go_sem,d0,d1,d2,d3,d4,d5,Result.andThen]; try rfl) rfl ?_
      exact hfin
     ·have hln:∀ b,l≠[b]:=fun b e=>h1 (by have:=congrArg List.length (mD.out.trans e); simpa using this)
      have dW:Hid (((gK S F [44] (rec .ty d) (n+1)).bind fun l n1=>(S.need [41] n1).bind fun _ n2=>qH l (fun b=>Out.ok b n2) ((S.typePath n2).bind fun p n3=>Out.ok (node 42 n n3 p l) n3))=(S.typePath n5).bind fun p n3=>Out.ok (node 42 n n3 p l) n3):=hid (by
       rw [qi.out,bind_ok,J5.out,bind_ok];exact MN hln _ _)
      have HT:=hid (fA S n5 d w5 jP.out (aA (by rw [← dW.out]; exact eQ.out)));have h1i:¬ ((ys.length:Nat):Int)=1:=by omega
      have hgk:((ys.length:Int) == 1)=false:=by rw [beq_eq_false_iff_ne]; exact h1i
      clear hln;obtain ⟨nl,hnl⟩:∃ nl,nl=ys.length:=⟨_,rfl⟩
      have yE:=hid hnl;rw [← hnl] at jS pI h1 h1i hgk ⊢;clear hnl
      go_wp2_with fail
      refine HT.out.mono ?_
      rintro e w6 (⟨p,n6,v,Uz,rfl,hv6,DR,oV⟩ | ⟨ch,ho,rfl,oV⟩)
      ·obtain ⟨np,nn,nc,rfl⟩:=hv6.form
       have Ac:=hid (ae nK.out oV);have GY:=hid (own_base (base':=w.heap.size+1) hv6 (by have:=nK.out.size; simpa using this));have Um:=hid (jS.out.kept oV (Or.inr (fun e=>by have:=(jS.out.lt _ e).1; omega)));have Rl:=hid (pI.out.grow oV (by omega));have qm:=hid DR;have XE:=hid Uz;have HB:=hid (az S n6 d 42 n np nn nc kp nl kc w6 DR);clear Uz hv6 DR oV
       go_wp2_with fail
       refine HB.out.mono ?_
       rintro e w7 ⟨rfl,hb7⟩;have HL:=bM (w0:=w) (w1:=w) 42 0 n n6 (ownsRow_below GY.out hb7) (by rw [← yE.out]; exact ownsRow_below Um.out hb7) (Rl.out.step hb7);have FIN:=hid (bH (o:=(gK S F [44] (rec .ty d) (n+1)).bind fun l n1=>(S.need [41] n1).bind fun _ n2=>qH l (fun b=>Out.ok b n2) ((S.typePath n2).bind fun p n3=>Out.ok (node 42 n n3 p l) n3)) (node 42 n n6 p l) 42 0 n n6 np nn nc _ kp nl kc ys (qm.out.step hb7) (ae Ac.out (grown_below hb7 _)) hgl aW (by rw [dW.out,XE.out]; rfl) HL.1 HL.2 (by rw [← mD.out]; simp [Br.pb,eF,node]));clear HL hb7;obtain ⟨c0,c1,c2,c3,c4,c5,f0,f1,f2,f3,f4,f5⟩:=FIN.out.al
       go_wp2_with fail
       obtain ⟨_,_,_,_,_,_,_,d0,d1,d2,d3,d4,d5,hfin⟩:=FIN.out;refine bodyPost_ret (by simp [results,results307,go_sem,d0,d1,d2,d3,d4,d5,Result.andThen]; try rfl) rfl ?_
       exact hfin
      ·exact ⟨rfl,Or.inr ⟨ch,by rw [dW.out]; exact ai ho,rfl,ae (grown_below ((Below.refl _ _).alloc (Nat.le_refl _) _) _) (ae nK.out oV)⟩⟩
    ·exact ⟨rfl,Or.inr ⟨ch,by rw [qi.out,bind_ok]; exact ai ho,rfl,ae (grown_below ((Below.refl _ _).alloc (Nat.le_refl _) _) _) (ae rD.out hg5)⟩⟩
   ·exact ⟨rfl,Or.inr ⟨ch,ai ho,rfl,ae (grown_below ((Below.refl _ _).alloc (Nat.le_refl _) _) _) (ae iQ.out hg4)⟩⟩
 ·rw [h8] at aG
  simp only [cond_true] at aG ⊢;have hk0:S.kd n≠0:=by intro e; rw [e] at h8; cases h8
  go_enter func307,ntmps307
  go_wp2_with fail
  refine zT.out.mono ?_
  rintro e w2 ⟨rfl,hb2⟩;have hr2:=HR1.out.step hb2;have hmore:=hr2.moreK hk0;have F9:=hid (hr2.bump hmore);have d2:=hr2.c2;have fz2:=hr2.free 2;have HG2:=hid (ae (grown_below hb2 (some S.g)) (aN S.g 2 (.int .i64 ((n:Int)+1))));have HB:=hid (az S (n+1) d 41 n none 0 0 none 0 0 _ F9.out);clear hr2 hb2 hk0
  go_wp2_with fail
  refine HB.out.mono ?_
  rintro e w5 ⟨rfl,hb5⟩;have FIN:=hid (bH (o:=Out.ok (node 41 n (n+1) [] []) (n+1)) (node 41 n (n+1) [] []) 41 0 n ((n:Int)+1) none 0 0 [] none 0 0 [] (F9.out.step hb5) (ae HG2.out (grown_below hb5 _)) hgl aW rfl (lV _ _ _ _ _) (qP _ _ _ _ _) (by simp [Br.pb,pbs,node]));clear hb5 F9 d2 fz2;obtain ⟨c0,c1,c2,c3,c4,c5,f0,f1,f2,f3,f4,f5⟩:=FIN.out.al
  go_wp2_with fail
  obtain ⟨_,_,_,_,_,_,_,d0,d1,d2,d3,d4,d5,hfin⟩:=FIN.out;refine bodyPost_ret (by simp [results,results307,go_sem,d0,d1,d2,d3,d4,d5,Result.andThen]; try rfl) rfl ?_
  exact hfin
theorem qZ {l:List Pb} (h:∀ b,l≠[b]) (k:Int) (f t:Nat) (ns:List Nat):fB l k f t ns=node k f t ns l:=by
 match l,h with
 | [],_=>rfl
 | [b],h=>exact absurd rfl (h b)
 | a :: b :: r,_=>rfl
theorem Zn (args:Array Value) (w:World):Sem.run prog (callFunc 299 args) w=.ok (.enter 299 args) w:=aV func299 (by kernel_rfl) (by kernel_rfl) args w
set_option maxHeartbeats 4000000 in
theorem BZ (S:Src) (F:Nat) (rec:Nt→Nat→Nat→Out Pb) (d:Nat) (hF:F≤1000000000)
  (hA:∀ k w,Rd w S k d→dK S F rec d k≠.dry→Calls prog 299 #[.pointer (some ⟨S.g,0,none⟩)] w fun e w'=>Ends S d w (dK S F rec d k) (RB w) e w')
  (n:Nat) (w:World) (h:Rd w S n d) (aG:fE S F rec d n≠.dry) :
  Calls prog 277 #[.pointer (some ⟨S.g,0,none⟩)] w fun e w'=>Ends S d w (fE S F rec d n) (RB w) e w':=by
 have hgl:=h.lt;have aW:=h.row;have hb1:Below w.heap.size w (w.alloc aH):=(Below.refl w.heap.size w).alloc (Nat.le_refl _) _;have hr1:=h.step hb1;have q2:=hr1.c2;unfold fE at aG ⊢;have HW:=hid (kH 299 #[] Zn S F n d ⟨#[42]⟩ (dK S F rec d) _ hr1 (by simp) hF (fun k w' hr _ hnd=>hA k w' hr hnd) (aA aG));have eQ:=hid aG;clear hr1 hb1 h hA aG
 go_enter func277,ntmps277
 go_wp2_with fail
 refine HW.out.mono ?_
 rintro e w4 (⟨l,n4,v,hpo,rfl,⟨ys,hown,hK,hmap⟩,hr4,hg4⟩ | ⟨ch,ho,rfl,hg4⟩)
 ·obtain ⟨kp,kc,rfl⟩:=dP hown
  have nK:=hid hg4;have jS:=hid (own_base (base':=w.heap.size+1) hown (by simp));have pI:Hid (Kids (w.heap.size+1) (.slice kp ys.length kc) w4 ys):=hid (fun y hy=>⟨(hK y hy).1,(hK y hy).2.mono (fun q hq=>⟨by have:=hq.1; simpa using this,hq.2⟩) _⟩);have qi:=hid hpo;have mD:=hid hmap;have jP:=hid hr4;clear hpo hown hK hmap hr4 hg4
  by_cases h1:ys.length=1
  ·obtain ⟨y,rfl⟩:=List.length_eq_one_iff.1 h1
   obtain ⟨yh,yks⟩:=y;obtain ⟨yk,ym,yf,yt,ynp,ynn,ync,yns,ykp,ykn,ykc⟩:=yh;obtain ⟨gk,ck,hvk,_,hgk,_,_⟩:=iJ jS.out (by simp)
   injection hvk with hk1 hk2 hk3
   subst hk1 hk3;have cell:=fun j u hu=>fQ jS.out j u hu
   have e0:=cell 0 _ rfl;have e1:=cell 1 _ rfl;have e2:=cell 2 _ rfl;have e3:=cell 3 _ rfl;have e4:=cell 4 _ rfl;have e5:=cell 5 _ rfl;simp only [Br.h] at e0 e1 e2 e3 e4 e5;obtain ⟨hyl,hyo⟩:=pI.out _ (List.mem_singleton.2 rfl);have FIN:=hid (bH (o:=(gK S F [42] (dK S F rec d) n).bind fun l n1=>Out.ok (fB l 44 n n1 []) n1) _ yk ym yf yt ynp ynn ync yns ykp ykn ykc yks jP.out nK.out hgl aW (by rw [qi.out,bind_ok,← mD.out]; rfl) hyl (hyo.mono (fun q hq=>hq.1) _) rfl);clear cell hyl hyo h1;obtain ⟨c0,c1,c2,c3,c4,c5,f0,f1,f2,f3,f4,f5⟩:=FIN.out.al
   go_wp2_with fail
   obtain ⟨_,_,_,_,_,_,_,d0,d1,d2,d3,d4,d5,hfin⟩:=FIN.out;refine bodyPost_ret (by simp [results,results277,go_sem,d0,d1,d2,d3,d4,d5,Result.andThen]; try rfl) rfl ?_
   exact hfin
  ·have hln:∀ b,l≠[b]:=fun b e=>h1 (by have:=congrArg List.length (mD.out.trans e); simpa using this)
   have dW:Hid (((gK S F [42] (dK S F rec d) n).bind fun l n1=>Out.ok (fB l 44 n n1 []) n1)=.ok (node 44 n n4 [] l) n4):=hid (by rw [qi.out,bind_ok,qZ hln]);have hgk:((ys.length:Int) == 1)=false:=by rw [beq_eq_false_iff_ne]; omega
   have h1i:¬ ((ys.length:Nat):Int)=1:=by omega
   have HB:=hid (az S n4 d 44 n none 0 0 kp ys.length kc w4 jP.out);clear hln;obtain ⟨nl,hnl⟩:∃ nl,nl=ys.length:=⟨_,rfl⟩
   have yE:=hid hnl;rw [← hnl] at jS pI h1 h1i hgk HB ⊢;clear hnl
   go_wp2_with fail
   refine HB.out.mono ?_
   rintro e w7 ⟨rfl,hb7⟩;have HL:=bM (w0:=w) (w1:=w) (N:=w.heap.size+1) 44 0 n n4 (fK (w:=w7)) (by rw [← yE.out]; exact ownsRow_below jS.out hb7) (pI.out.step hb7);have FIN:=hid (bH (o:=(gK S F [42] (dK S F rec d) n).bind fun l n1=>Out.ok (fB l 44 n n1 []) n1) (node 44 n n4 [] l) 44 0 n n4 none 0 0 _ kp nl kc ys (jP.out.step hb7) (ae nK.out (grown_below hb7 _)) hgl aW dW.out HL.1 HL.2 (by rw [← mD.out]; simp [Br.pb,eF,node]));clear HL hb7;obtain ⟨c0,c1,c2,c3,c4,c5,f0,f1,f2,f3,f4,f5⟩:=FIN.out.al
   go_wp2_with fail
   obtain ⟨_,_,_,_,_,_,_,d0,d1,d2,d3,d4,d5,hfin⟩:=FIN.out;refine bodyPost_ret (by simp [results,results277,go_sem,d0,d1,d2,d3,d4,d5,Result.andThen]; try rfl) rfl ?_
   exact hfin
 ·exact ⟨rfl,Or.inr ⟨ch,ai ho,rfl,ae (grown_below ((Below.refl _ _).alloc (Nat.le_refl _) _) _) hg4⟩⟩
end Go.Proofs.YtmpmfamiegpmgaaGreatDoor
