/-
  sort.Search, for the closure of unit's At: the first occurrence that ends behind a place.; unit's At: the occurrence in whose bytes a byte stands.; The document's Few: are files gone through?; What the law UnitRises finds in a unit that is loaded.; The example of layer 10: its two files, their tokens, branches and occurrences.; unit's Names: the bytes of all occurrences.; The document's Texts: of two rows of the same texts it tells true.; The example of layer 10.; Looks at a unit that is none.
-/
import Derived.Test.YtmpmfamiegpmgaaGreatDoorGB
import Derived.OwnWalk
import Derived.Test.YtmpmfamiegpmgaaGreatDoorGHD
import Derived.Test.YtmpmfamiegpmgaaGreatDoorGZ
import Derived.Test.YtmpmfamiegpmgaaGreatDoorGA
namespace Go.Proofs.YtmpmfamiegpmgaaGreatDoor
open Tryz
open Go.Lib (cell_of_heap hid)
open Go.RowKit
set_option maxRecDepth 20000
set_option linter.unusedVariables false
set_option linter.unusedSimpArgs false
set_option maxHeartbeats 4000000 in
theorem OI (W:World) (ba bp oa m i:Nat) (at_ e:Int) (h1:W.cell? ⟨ba,0,none⟩=some (.int .i64 at_)) (h2:W.cell? ⟨bp,9,none⟩=some (.slice (some ⟨oa,0,none⟩) m m)) (hi:i < m) (h3:W.cell? ⟨oa,i * 5+2,none⟩=some (.int .i64 e)) :
  Calls prog 77 #[.int .i64 i,.pointer (some ⟨ba,0,none⟩),.pointer (some ⟨bp,0,none⟩)] W fun x W'=>x=.returned (.bool (decide (at_ < e)))∧∃ d,W'=W.drewN d:=by
 have r1:(0:Int)≤(i:Int):=by omega
 have r2:(i:Int) < (m:Int):=by omega
 go_enter func77,ntmps77
 go_wp2_with fail
 go_quiet (fail)
 go_wp2_with fail
 go_ret
 exact ⟨rfl,_,rfl⟩
structure GY (m:Nat) (e:Nat→Int) (x:Int) (k:Nat):Prop where
 le:k≤m
 lo:∀ i,i < k→¬ x < e i
 hi:∀ i,k≤i→i < m→x < e i
set_option maxHeartbeats 4000000 in
theorem Gi (W:World) (ba bp oa m:Nat) (at_:Int) (e:Nat→Int) (k:Nat) (hm:m≤100000000) (h1:W.cell? ⟨ba,0,none⟩=some (.int .i64 at_)) (h2:W.cell? ⟨bp,9,none⟩=some (.slice (some ⟨oa,0,none⟩) m m))
  (h3:∀ i,i < m→W.cell? ⟨oa,i * 5+2,none⟩=some (.int .i64 (e i))) (hk:GY m e at_ k) :
  Calls prog 76 #[.int .i64 m,.func (.func 77) #[] #[.pointer (some ⟨ba,0,none⟩),.pointer (some ⟨bp,0,none⟩)]] W fun x W'=>x=.returned (.int .i64 k)∧∃ d,W'=W.drewN d:=by
 have hcf:∀ args W,Sem.run prog (callFunc 77 args) W=.ok (.enter 77 args) W:=fun args W=>bI func77 (by kernel_rfl) (by kernel_rfl) args W
 have HA:Hid (∀ i d,i < m→Calls prog 77 #[.int .i64 i,.pointer (some ⟨ba,0,none⟩),.pointer (some ⟨bp,0,none⟩)] (W.drewN d) fun x W'=>x=.returned (.bool (decide (at_ < e i)))∧∃ d,W'=W.drewN d):=hid fun i d hi=>by
  refine (OI (W.drewN d) ba bp oa m i at_ (e i) h1 h2 hi (h3 i hi)).mono ?_
  rintro x W' ⟨hx,d',hw⟩;exact ⟨hx,d+d',by rw [hw,World.drewN_drewN]⟩
 have HK:=hid hk;have Yd:=hk.le;clear h1 h2 h3 hk
 go_enter func76,ntmps76
 go_wp2_with fail
 go_loopw [5,6] (fun i j wr=>∃ a b d:Nat,a≤k∧k≤b∧b≤m∧i=.int .i64 a∧j=.int .i64 b∧wr=W.drewN d) (fun i j _=>((intOf j).toNat - (intOf i).toNat))
 case atStart=>exact ⟨0,m,0,by omega,Yd,by omega,rfl,rfl,rfl⟩
 case round =>
  obtain ⟨a,b,d,ha,hb,hbm,rfl,rfl,rfl⟩:=hrel
  by_cases hlt:a < b
  ·obtain ⟨c,hc⟩:∃ c,c=(a+b) / 2:=⟨_,rfl⟩
   have hmid:((a:Int)+b) / 2=((c:Nat):Int):=by omega
   have hca:a≤c:=by omega
   have hcb:c < b:=by omega
   have HC:=hid (HA.out c d (by omega));have hcase:(k≤c→at_ < e c)∧(¬ k≤c→¬ at_ < e c):=⟨fun h=>HK.out.hi c h (by omega),fun h=>HK.out.lo c (by omega)⟩;have HCS:=hid hcase;clear hc hcase
   by_cases hkc:k≤c
   ·have ht:decide (at_ < e c)=true:=by simpa using HCS.out.1 hkc
    rw [ht] at HC;clear ht
    go_wp2_with fail
    refine HC.out.mono ?_
    rintro x w2 ⟨rfl,d2,rfl⟩
    go_wp2_with fail
    go_roundw
    case rel=>exact ⟨a,c,d2,ha,hkc,by omega,rfl,rfl,rfl⟩
    case measure=>simp [intOf]; omega
   ·have ht:decide (at_ < e c)=false:=by simpa using HCS.out.2 hkc
    rw [ht] at HC;clear ht
    go_wp2_with fail
    refine HC.out.mono ?_
    rintro x w2 ⟨rfl,d2,rfl⟩
    go_wp2_with fail
    go_roundw
    case rel=>exact ⟨c+1,b,d2,by omega,hb,hbm,by go_num,rfl,rfl⟩
    case measure=>simp [intOf]; omega
  ·have hab:a=k:=by omega
   subst hab
   go_wp2_with fail
   go_ret
   exact ⟨rfl,d,rfl⟩
def AtR (p:PC) (a e:Nat→Int) (x:Int) (k:Nat) (r:Int) (b:Bool):Prop:=(k < p.m∧a k≤x∧r=p.first+(k:Int)∧b=true)∨(¬ (k < p.m∧a k≤x)∧r=0∧b=false)
set_option maxHeartbeats 4000000 in
theorem at_in (W:World) (pu gp:Nat) (ps:List PC) (i:Nat) (p:PC) (x:Int) (a e:Nat→Int) (k:Nat) (hu:UAt W pu gp ps) (hi:ps[i]?=some p) (hm:p.m≤100000000) (hf:0≤p.first∧p.first≤100000000) (hol:p.oa < W.heap.size)
  (ho:∀ j,j < p.m→W.cell? ⟨p.oa,j * 5+1,none⟩=some (.int .i64 (a j))∧W.cell? ⟨p.oa,j * 5+2,none⟩=some (.int .i64 (e j))) (hk:GY p.m e x k) :
  Calls prog 41 #[.pointer (some ⟨pu,0,none⟩),.int .i64 i,.int .i64 x] W fun y W'=>(∃ r b,AtR p a e x k r b∧y=.returned (.tuple #[.int .i64 r,.bool b]))∧Below W.heap.size W W':=by
 have hb1:Below W.heap.size W (W.alloc (.cells #[.int .i64 x] 3)):=(Below.refl W.heap.size W).alloc (Nat.le_refl _) _;have HA:=hid (Ji _ pu gp ps i p (hu.step hb1) hi);have hx:(W.alloc (.cells #[.int .i64 x] 3)).cell? ⟨W.heap.size,0,none⟩=some (.int .i64 x):=by rw [cell_of_heap (heap_alloc_new W _)]; rfl
 have HX:=hid hx;have HB1:=hid hb1;have HO:=hid ho;have HK:=hid hk;have Yd:=hk.le;clear hu hi hb1 hx ho hk;obtain ⟨⟨nm,tx⟩,⟨hk0,hm0,hf0,ht0,np,nn,nc,ns,kp,kn,kc⟩,first,oa,m⟩:=p;simp only [PC.val] at *
 go_enter func41,ntmps41
 go_wp2_with fail
 refine HA.out.mono ?_
 rintro y w2 ⟨rfl,hb⟩;have hz:=hb.size;have hbx:=HB1.out.trans (hb.mono (by simp));obtain ⟨w3,hw3⟩:∃ w3,w3=w2.alloc (.cells #[.string nm,.string tx,.int .i64 hk0,.int .i64 hm0,.int .i64 hf0,.int .i64 ht0,.slice np nn nc,.slice kp kn kc,.int .i64 first,.slice (some ⟨oa,0,none⟩) m m] 132):=⟨_,rfl⟩
 have hzz:W.heap.size < w2.heap.size:=by simp at hz; omega
 have hb3:Below W.heap.size W w3:=by rw [hw3]; exact hbx.alloc (by omega) _
 have x3:w3.cell? ⟨W.heap.size,0,none⟩=some (.int .i64 x):=by
  rw [hw3,((Below.refl w2.heap.size w2).alloc (Nat.le_refl _) _).cell (p:=⟨W.heap.size,0,none⟩) hzz,hb.cell (p:=⟨W.heap.size,0,none⟩) (by simp)];exact HX.out
 have p8:w3.cell? ⟨w2.heap.size,8,none⟩=some (.int .i64 first):=by rw [hw3,cell_of_heap (heap_alloc_new w2 _)]; rfl
 have p9:w3.cell? ⟨w2.heap.size,9,none⟩=some (.slice (some ⟨oa,0,none⟩) m m):=by rw [hw3,cell_of_heap (heap_alloc_new w2 _)]; rfl
 have HS:=hid (Gi w3 W.heap.size w2.heap.size oa m x e k hm x3 p9 (fun j hj=>(hb3.cell (p:=⟨oa,_,none⟩) hol).trans (HO.out j hj).2) HK.out);have Kv:Hid (∀ j,j < m→w3.cell? ⟨oa,j * 5+1,none⟩=some (.int .i64 (a j))):=hid fun j hj=>(hb3.cell (p:=⟨oa,_,none⟩) hol).trans (HO.out j hj).1
 have HB3:=hid hb3;have HW3:=hid hw3;clear hb hbx hb3 hw3
 go_wp2_with fail
 rw [← HW3.out]
 go_wp2_with fail
 refine HS.out.mono ?_
 rintro y w4 ⟨rfl,d,rfl⟩;have SL:Hid (Below W.heap.size W (w3.drewN d)):=hid (below_drewN HB3.out d)
 by_cases Xd:k=m
 ·subst Xd
  clear HS HA
  go_wp2_with fail
  go_quiet (fail)
  go_wp2_with fail
  go_returns
  exact ⟨⟨0,false,.inr ⟨fun h=>absurd h.1 (Nat.lt_irrefl _),rfl,rfl⟩,rfl⟩,by first | exact below_drewN HB3.out _ | exact below_drewN SL.out _⟩
 ·have hlt:k < m:=by omega
  have t1:((k:Int) == (m:Int))=false:=by simp; omega
  have r1:(0:Int)≤(k:Int):=by omega
  have r2:(k:Int) < (m:Int):=by omega
  have qa:=Kv.out k hlt;have PM:Hid (AtR ⟨(nm,tx),⟨hk0,hm0,hf0,ht0,np,nn,nc,ns,kp,kn,kc⟩,first,oa,m⟩ a e x k (bif decide (x < a k) then 0 else first+k) (!decide (x < a k))):=hid (by
   cases h:decide (x < a k)
   ·exact .inl ⟨hlt,by simpa using h,rfl,rfl⟩
   ·exact .inr ⟨fun h2=>by have:=h2.2; simp at h; omega,rfl,rfl⟩)
  generalize a k=ak at *;clear HS HA Xd
  cases hax:decide (x < ak)
  ·rw [hax] at PM
   have hxx:¬ x < ak:=by simpa using hax
   clear hax
   go_wp2_with fail
   go_quiet (fail)
   go_wp2_with fail
   go_returns
   exact ⟨⟨_,_,PM.out,rfl⟩,by first | exact below_drewN HB3.out _ | exact below_drewN SL.out _⟩
  ·rw [hax] at PM
   have hxx:x < ak:=by simpa using hax
   clear hax
   go_wp2_with fail
   go_quiet (fail)
   go_wp2_with fail
   go_returns
   exact ⟨⟨_,_,PM.out,rfl⟩,by first | exact below_drewN HB3.out _ | exact below_drewN SL.out _⟩
def zX (f:bn):Nat:=min f.2.size 5000+min f.1.size 5000
def l7 (l:List bn):Nat:=(l.map zX).sum
theorem I8 (l:List bn) (k:Nat) (f:bn) (h:l[k]?=some f):l7 (l.take (k+1))=l7 (l.take k)+zX f:=by
 obtain ⟨hk,e⟩:=List.getElem?_eq_some_iff.1 h;rw [List.take_succ_eq_append_getElem hk]
 simp [l7,e]
theorem QZ (l:List bn):l7 l≤l.length * 10000:=by
 induction l with
 | nil=>simp [l7]
 | cons f r ih =>
  have:zX f≤10000:=by unfold zX; omega
  simp only [l7,List.map_cons,List.sum_cons,List.length_cons] at *
  omega
structure QY (fs:List bn):Prop where
 len:fs.length≤4
 sum:sumT fs≤1500
 each:∀ f ∈ fs,f.1.size≤1500∧f.2.size≤1500
theorem U2 (fs:List bn) (h:fs.length≤4) (h2:l7 fs≤1500):QY fs:=by
 have key:∀ l:List bn,l7 l≤1500→sumT l≤l7 l∧∀ f ∈ l,f.1.size≤1500∧f.2.size≤1500:=by
  intro l
  induction l with
  | nil=>intro _; exact ⟨by simp [sumT],by simp⟩
  | cons f r ih =>
   intro hl;simp only [l7,List.map_cons,List.sum_cons] at hl;have h3:zX f≤1500:=by omega
   have h4:f.1.size≤1500∧f.2.size≤1500:=by unfold zX at h3; omega
   obtain ⟨i1,i2⟩:=ih (by simp only [l7]; omega);refine ⟨?_,fun g hg=>?_⟩
   ·simp only [sumT,l7,List.map_cons,List.sum_cons] at *
    have:f.2.size≤zX f:=by unfold zX; omega
    omega
   ·rcases List.mem_cons.1 hg with rfl | hg
    ·exact h4
    ·exact i2 g hg
 exact ⟨h,Nat.le_trans (key fs h2).1 h2,(key fs h2).2⟩
def aan (fs:List bn) (W:World) (e:Ending) (W':World):Prop:=∃ b:Bool,e=.returned (.bool b)∧(b=true→QY fs)∧∃ d,W'=W.drewN d
set_option maxHeartbeats 4000000 in
theorem Kq (fs:List bn) (p:Option Addr) (n c:Nat) (W:World) (h:FIn W p n c fs) (hn63:n≤9223372036854775807):Calls prog 37 #[.slice p n c] W (aan fs W):=by
 have HI:=hid h;have hn:=h.1;have HN:=hid hn;have HM:=hid hn63;clear h hn hn63
 go_enter func37,ntmps37
 go_wp2_with fail
 go_loopw [3,4] (fun v i wr=>∃ k d:Nat,k≤n∧k≤5∧i=.int .i64 k∧v=.int .i64 (l7 (fs.take k):Nat)∧wr=W.drewN d) (fun _ i _=>5 - (intOf i).toNat)
 case atStart=>exact ⟨0,0,by omega,by omega,rfl,by simp [l7],rfl⟩
 case round =>
  obtain ⟨k,d,hk,hk5,rfl,rfl,rfl⟩:=hrel;have hbd:=QZ (fs.take k);have hlt0:(fs.take k).length≤5:=by rw [List.length_take]; omega
  by_cases hlt:k < n
  ·by_cases hk4:k≤4
   ·obtain ⟨hn1,h0 | ⟨b,o,rfl,hc,hb,hat⟩⟩:=HI.out
    ·omega
    have hkl:k < fs.length:=by omega
    obtain ⟨f,hf⟩:∃ f,fs[k]?=some f:=⟨_,List.getElem?_eq_getElem hkl⟩
    obtain ⟨q0,q1⟩:=hat k f hf;have HT:=hid (I8 fs k f hf);obtain ⟨nm,tx⟩:=f
    simp only at q0 q1
    have r1:(0:Int)≤(k:Int):=by omega
    have r2:(k:Int) < (n:Int):=by omega
    have hC:Hid (zX (nm,tx)=min tx.size 5000+min nm.size 5000):=hid rfl;have hbd2:l7 (fs.take k)≤50000:=by omega
    generalize l7 (fs.take k)=T at *;clear hn1 hat hf hkl hbd hlt0
    go_wp2_with fail
    go_quiet (fail)
    go_wp2_with fail
    go_roundw
    case rel=>exact ⟨k+1,_,by omega,by omega,by go_num,by rw [HT.out,hC.out]; exact congrArg (Value.int .i64) (by omega),rfl⟩
    case measure=>simp [intOf]; omega
   ·have h5:¬ n≤4:=by omega
    have h6:¬ (k:Int)≤4:=by omega
    go_wp2_with fail
    go_ret
    exact ⟨false,rfl,(fun h=>by cases h),_,rfl⟩
  ·have hkn:k=n:=by omega
   have YC:Hid (l7 (fs.take k)=l7 fs):=hid (by have:=HN.out; rw [hkn,this,List.take_length])
   by_cases h4:n≤4
   ·by_cases ht:l7 (fs.take k)≤1500
    ·have HF:Hid (QY fs):=hid (U2 fs (by have:=HN.out; omega) (by rw [← YC.out]; exact ht))
     generalize l7 (fs.take k)=T at *;have ht2:(T:Int)≤1500:=by omega
     subst hkn
     go_wp2_with fail
     go_ret
     exact ⟨true,rfl,fun _=>HF.out,_,rfl⟩
    ·generalize l7 (fs.take k)=T at *
     have ht2:¬ (T:Int)≤1500:=by omega
     subst hkn
     go_wp2_with fail
     go_ret
     exact ⟨false,rfl,(fun h=>by cases h),_,rfl⟩
   ·have h6:¬ (n:Int)≤4:=by omega
    subst hkn
    go_wp2_with fail
    go_ret
    exact ⟨false,rfl,(fun h=>by cases h),_,rfl⟩
theorem NT (l:List ByteArray):∃ t,jT l t:=by
 have key:∀ k,k≤l.length→∃ t,t≤k∧(l.take t).Nodup∧(t < k→∃ x,l[t]?=some x∧x ∈ l.take t):=by
  intro k
  induction k with
  | zero=>intro _; exact ⟨0,Nat.le_refl _,by simp,fun h=>absurd h (Nat.lt_irrefl _)⟩
  | succ k ih =>
   intro hk;obtain ⟨t,h1,h2,h3⟩:=ih (by omega)
   by_cases ht:t < k
   ·exact ⟨t,by omega,h2,fun _=>h3 ht⟩
   ·obtain rfl:t=k:=by omega
    have hlt:t < l.length:=by omega
    by_cases hm:l[t] ∈ l.take t
    ·exact ⟨t,by omega,h2,fun _=>⟨l[t],List.getElem?_eq_getElem hlt,hm⟩⟩
    ·refine ⟨t+1,Nat.le_refl _,?_,fun h=>absurd h (Nat.lt_irrefl _)⟩
     rw [List.take_succ_eq_append_getElem hlt,List.nodup_append];exact ⟨h2,by simp,fun a ha b hb=>by simp at hb; subst hb; exact fun e=>hm (e ▸ ha)⟩
 obtain ⟨t,h1,h2,h3⟩:=key l.length (Nat.le_refl _);exact ⟨t,h1,h2,h3⟩
def Behind (u v:fK):Prop:=u.file < v.file∨(u.file=v.file∧u.end_≤v.at_)
structure QsF (fs:List bn) (qs:List PV):Prop where
 len:qs.length=fs.length
 os:∀ (i:Nat) (q:PV),qs[i]?=some q→OsF q.pc.f.2 i q.os∧fs[i]?=some q.pc.f∧q.pc.first=(bG (qs.take i)).length
theorem kK.qsF {K pu gp:Nat} {fs:List bn} {qs:List PV} {nds:List Br} {W:World} (h:kK K fs lF pu gp qs nds W):QsF fs qs:=by
 refine ⟨h.len,fun i q hi=>?_⟩
 have hlt:=(List.getElem?_eq_some_iff.1 hi).1;obtain ⟨nd,hn⟩:∃ nd,nds[i]?=some nd:=⟨_,List.getElem?_eq_getElem (by rw [h.lenn]; exact hlt)⟩
 have hp:=h.pt i q nd hi hn;exact ⟨hp.good.2,hp.file,hp.first⟩
theorem NR (qs:List PV):∀ (i:Nat) (v:fK),(bG qs)[i]?=some v→∃ k q j,qs[k]?=some q∧q.os[j]?=some v∧i=(bG (qs.take k)).length+j:=by
 induction qs with
 | nil=>intro i v h; simp [bG] at h
 | cons q r ih =>
  intro i v h;have he:bG (q :: r)=q.os++bG r:=by simp [bG]
  rw [he] at h
  by_cases hi:i < q.os.length
  ·rw [List.getElem?_append_left hi] at h
   exact ⟨0,q,i,rfl,h,by simp [bG]⟩
  ·rw [List.getElem?_append_right (by omega)] at h
   obtain ⟨k,q',j,h1,h2,h3⟩:=ih _ v h;refine ⟨k+1,q',j,h1,h2,?_⟩
   have:(bG ((q :: r).take (k+1))).length=q.os.length+(bG (r.take k)).length:=by simp [bG]
   omega
theorem QsF.total {fs:List bn} {qs:List PV} (h:QsF fs qs):(bG qs).length≤sumT fs:=by
 have key:∀ k,k≤qs.length→(bG (qs.take k)).length≤sumT (fs.take k):=by
  intro k
  induction k with
  | zero=>intro _; simp [bG,sumT]
  | succ k ih =>
   intro hk;obtain ⟨q,hq⟩:∃ q,qs[k]?=some q:=⟨_,List.getElem?_eq_getElem (by omega)⟩
   obtain ⟨ho,hf,_⟩:=h.os k q hq;rw [xu qs k q hq,List.length_append,pV fs k _ hf]
   have:=ih (by omega)
   have:=ho.len
   omega
 have:=key qs.length (Nat.le_refl _)
 rw [List.take_length,h.len,List.take_length] at this;exact this
theorem zi {w:World} {base E size n:Nat} {v:Value} {xs:List Value} (h:w.ownsRow base E size v n xs):∃ p c,v=.slice p n c:=by
 rcases h.2 with ⟨rfl,h0⟩ | ⟨g,c,cur,rfl,_⟩
 ·exact ⟨none,0,by rw [h0]⟩
 ·exact ⟨_,c,rfl⟩
theorem aay:dw [118,97,108,32,120,32,61,32,49]=(10,3):=(by kernel_rfl:dw [118,97,108,32,120,32,61,32,49]=(dh [118,97,108],3)).trans (by rw [lH (by decide) tJ rfl])
theorem aam:dw [32,120,32,61,32,49]=(1,1):=by kernel_rfl
theorem aaV:dw [120,32,61,32,49]=(6,1):=(by kernel_rfl:dw [120,32,61,32,49]=(dh [120],1)).trans (by rw [lH (by decide) SC rfl])
theorem aaq:dw [32,61,32,49]=(1,1):=by kernel_rfl
theorem aa0:dw [61,32,49]=(11,1):=(by kernel_rfl:dw [61,32,49]=(dh [61],1)).trans (by rw [lH (by decide) Xr rfl])
theorem aaC:dw [32,49]=(1,1):=by kernel_rfl
theorem aaO:dw [49]=(4,1):=by kernel_rfl
abbrev uj:ByteArray:=⟨#[118,97,108,32,120,32,61,32,49]⟩
theorem GM:tK uj=[⟨10,0,3⟩,⟨1,3,4⟩,⟨6,4,5⟩,⟨1,5,6⟩,⟨11,6,7⟩,⟨1,7,8⟩,⟨4,8,9⟩,⟨0,9,9⟩]:=by
 show dK 9 0 [118,97,108,32,120,32,61,32,49]++[⟨0,9,9⟩]=_
 simp [dK,aay,aam,aaV,aaq,aa0,aaC,aaO]
theorem BJ:aO uj=[⟨10,0,3⟩,⟨6,4,5⟩,⟨11,6,7⟩,⟨4,8,9⟩,⟨0,9,9⟩]:=by
 unfold aO; rw [GM]; rfl
theorem OM:(gu uj).2=0:=by
 unfold gu; rw [GM]; decide
abbrev ML:Pb:=(.mk 1 0 0 4 [] [(.mk 3 0 0 4 [] [(.mk 39 0 1 2 [1] []),(.mk 26 0 3 4 [] [])])])
theorem E8 (S:Src) (h1:S.s=uj) (h2:S.ts=aO uj):fF S (jG S)=.ok ML 4:=by
 rw [BJ] at h2;obtain ⟨s,ts,g,gw,cw⟩:=S
 simp only at h1 h2
 subst h1 h2
 kernel_rfl
theorem Ul {a c:Int} (hc:c≠0) (he:jw uj a c):False:=by
 rcases he with ⟨h1,_⟩ | ⟨_,S,h1,h2,_,⟨n,h3,_⟩ | ⟨n,h3,_⟩⟩
 ·exact h1 OM
 ·rw [E8 S h1 h2] at h3; cases h3
 ·rw [E8 S h1 h2] at h3; cases h3
theorem Xt {file first:Int} {q:PV} {nd y0:Br} {n:Nat} {ts:List Int} (h:oK uj file first q nd y0 n ts):q.os=[⟨file,4,5,1,true⟩]:=by
 obtain ⟨_,S,h1,h2,hG,h3⟩:=h.ok;have hpb:y0.pb=ML:=by
  rw [E8 S h1 h2] at h3
  injection h3 with h3 _
  exact h3.symm
 obtain ⟨_,_,hr,hm,hmem,Lu⟩:=h;have hts:ts=[1]:=by
  refine oh hr (by unfold mG; decide) fun x=>?_
  rw [hmem x,jJ,hpb];simp only [ML,iV,kN]
  simp
  try omega
 subst hts;have ho:∀ (i:Nat) (t:Int),([1]:List Int)[i]?=some t→∃ k ns,(k,ns) ∈ iV ML∧∃ j:Nat,ns[j]?=some t∧q.os[i]?=some (qp (aO uj) file k ns.length j t):=fun i t hi=>by
  obtain ⟨z,hz,j,hj,ho⟩:=Lu i t hi;refine ⟨z.h.k,z.h.ns,?_,j,hj,ho⟩
  rw [← hpb,← mQ];exact List.mem_map.2 ⟨z,hz,rfl⟩
 have g0:q.os[0]?=some ⟨file,4,5,1,true⟩:=by
  obtain ⟨k,ns,hin,j,hj,ho⟩:=ho 0 1 rfl;simp only [ML,iV,kN,List.append_nil,List.nil_append,List.cons_append,List.mem_cons,Prod.mk.injEq,List.not_mem_nil,or_false] at hin;rw [BJ] at ho
  rcases hin with ⟨rfl,rfl⟩ | ⟨rfl,rfl⟩ | ⟨rfl,rfl⟩ | ⟨rfl,rfl⟩ <;> rcases j with _ | _ | j <;> first | (exfalso; simp at hj; done) | exact ho
 have hl:q.os.length=1:=by rw [← hm]; rfl
 refine List.ext_getElem? fun i=>?_
 rcases Nat.lt_or_ge i 1 with hi | hi
 ·match i,hi with
  | 0,_=>exact g0
 ·rw [List.getElem?_eq_none (by omega),List.getElem?_eq_none (by simpa using hi)]
theorem aaS:dw [118,97,108,32,121,32,61,32,120]=(10,3):=(by kernel_rfl:dw [118,97,108,32,121,32,61,32,120]=(dh [118,97,108],3)).trans (by rw [lH (by decide) tJ rfl])
theorem aal:dw [32,121,32,61,32,120]=(1,1):=by kernel_rfl
theorem aaP:dw [121,32,61,32,120]=(6,1):=(by kernel_rfl:dw [121,32,61,32,120]=(dh [121],1)).trans (by rw [lH (by decide) XI rfl])
theorem aaX:dw [32,61,32,120]=(1,1):=by kernel_rfl
theorem aaz:dw [61,32,120]=(11,1):=(by kernel_rfl:dw [61,32,120]=(dh [61],1)).trans (by rw [lH (by decide) Xr rfl])
theorem aar:dw [32,120]=(1,1):=by kernel_rfl
theorem aau:dw [120]=(6,1):=(by kernel_rfl:dw [120]=(dh [120],1)).trans (by rw [lH (by decide) SC rfl])
abbrev uu:ByteArray:=⟨#[118,97,108,32,121,32,61,32,120]⟩
theorem GZ:tK uu=[⟨10,0,3⟩,⟨1,3,4⟩,⟨6,4,5⟩,⟨1,5,6⟩,⟨11,6,7⟩,⟨1,7,8⟩,⟨6,8,9⟩,⟨0,9,9⟩]:=by
 show dK 9 0 [118,97,108,32,121,32,61,32,120]++[⟨0,9,9⟩]=_
 simp [dK,aaS,aal,aaP,aaX,aaz,aar,aau]
theorem xB:aO uu=[⟨10,0,3⟩,⟨6,4,5⟩,⟨11,6,7⟩,⟨6,8,9⟩,⟨0,9,9⟩]:=by
 unfold aO; rw [GZ]; rfl
theorem NK:(gu uu).2=0:=by
 unfold gu; rw [GZ]; decide
abbrev IM:Pb:=(.mk 1 0 0 4 [] [(.mk 3 0 0 4 [] [(.mk 39 0 1 2 [1] []),(.mk 28 0 3 4 [3] [])])])
theorem FV (S:Src) (h1:S.s=uu) (h2:S.ts=aO uu):fF S (jG S)=.ok IM 4:=by
 rw [xB] at h2;obtain ⟨s,ts,g,gw,cw⟩:=S
 simp only at h1 h2
 subst h1 h2
 kernel_rfl
theorem UG {a c:Int} (hc:c≠0) (he:jw uu a c):False:=by
 rcases he with ⟨h1,_⟩ | ⟨_,S,h1,h2,_,⟨n,h3,_⟩ | ⟨n,h3,_⟩⟩
 ·exact h1 NK
 ·rw [FV S h1 h2] at h3; cases h3
 ·rw [FV S h1 h2] at h3; cases h3
theorem Xv {file first:Int} {q:PV} {nd y0:Br} {n:Nat} {ts:List Int} (h:oK uu file first q nd y0 n ts):q.os=[⟨file,4,5,1,true⟩,⟨file,8,9,1,false⟩]:=by
 obtain ⟨_,S,h1,h2,hG,h3⟩:=h.ok;have hpb:y0.pb=IM:=by
  rw [FV S h1 h2] at h3
  injection h3 with h3 _
  exact h3.symm
 obtain ⟨_,_,hr,hm,hmem,Lu⟩:=h;have hts:ts=[1,3]:=by
  refine oh hr (by unfold mG; decide) fun x=>?_
  rw [hmem x,jJ,hpb];simp only [IM,iV,kN]
  simp
  try omega
 subst hts;have ho:∀ (i:Nat) (t:Int),([1,3]:List Int)[i]?=some t→∃ k ns,(k,ns) ∈ iV IM∧∃ j:Nat,ns[j]?=some t∧q.os[i]?=some (qp (aO uu) file k ns.length j t):=fun i t hi=>by
  obtain ⟨z,hz,j,hj,ho⟩:=Lu i t hi;refine ⟨z.h.k,z.h.ns,?_,j,hj,ho⟩
  rw [← hpb,← mQ];exact List.mem_map.2 ⟨z,hz,rfl⟩
 have g0:q.os[0]?=some ⟨file,4,5,1,true⟩:=by
  obtain ⟨k,ns,hin,j,hj,ho⟩:=ho 0 1 rfl;simp only [IM,iV,kN,List.append_nil,List.nil_append,List.cons_append,List.mem_cons,Prod.mk.injEq,List.not_mem_nil,or_false] at hin;rw [xB] at ho
  rcases hin with ⟨rfl,rfl⟩ | ⟨rfl,rfl⟩ | ⟨rfl,rfl⟩ | ⟨rfl,rfl⟩ <;> rcases j with _ | _ | j <;> first | (exfalso; simp at hj; done) | exact ho
 have g1:q.os[1]?=some ⟨file,8,9,1,false⟩:=by
  obtain ⟨k,ns,hin,j,hj,ho⟩:=ho 1 3 rfl;simp only [IM,iV,kN,List.append_nil,List.nil_append,List.cons_append,List.mem_cons,Prod.mk.injEq,List.not_mem_nil,or_false] at hin;rw [xB] at ho
  rcases hin with ⟨rfl,rfl⟩ | ⟨rfl,rfl⟩ | ⟨rfl,rfl⟩ | ⟨rfl,rfl⟩ <;> rcases j with _ | _ | j <;> first | (exfalso; simp at hj; done) | exact ho
 have hl:q.os.length=2:=by rw [← hm]; rfl
 refine List.ext_getElem? fun i=>?_
 rcases Nat.lt_or_ge i 2 with hi | hi
 ·match i,hi with
  | 0,_=>exact g0
  | 1,_=>exact g1
 ·rw [List.getElem?_eq_none (by omega),List.getElem?_eq_none (by simpa using hi)]
def LV (q:PV):List ByteArray:=q.os.map fun v=>jy q.pc.f.2 v.at_ v.end_
def fC (qs:List PV):List ByteArray:=qs.flatMap LV
theorem EY (qs:List PV) (k:Nat) (q:PV) (h:qs[k]?=some q):fC (qs.take (k+1))=fC (qs.take k)++q.os.map fun v=>jy q.pc.f.2 v.at_ v.end_:=by
 obtain ⟨hk,e⟩:=List.getElem?_eq_some_iff.1 h;rw [List.take_succ_eq_append_getElem hk,e]
 simp [fC,LV]
theorem MB (qs:List PV) (k:Nat):(fC (qs.take k)).length≤(fC qs).length:=by
 have h2:(fC (qs.take k++qs.drop k)).length=(fC (qs.take k)).length+(fC (qs.drop k)).length:=by simp only [fC,List.flatMap_append,List.length_append]
 rw [List.take_append_drop] at h2; omega
set_option maxHeartbeats 4000000 in
theorem yT (W:World) (pu gp:Nat) (qs:List PV) (hu:UAt W pu gp (qs.map PV.pc)) (hq:∀ q ∈ qs,sG W q) (hN:(fC qs).length≤10000000) (hS:∀ q ∈ qs,q.pc.f.2.size≤1000000) (hL:qs.length≤100000) :
  Calls prog 50 #[.pointer (some ⟨pu,0,none⟩)] W fun e W'=>∃ v,e=.returned v∧W'.ownsRow W.heap.size 9 1 v (fC qs).length ((fC qs).map Value.string)∧Below W.heap.size W W':=by
 obtain ⟨i9,hi9,hy0,hy1,hy2⟩:∃ i9,prog.info? 9=some i9∧i9.zero=some (.string ⟨#[]⟩)∧i9.size=1∧i9.bytes=16:=by
  refine ⟨_,rfl,?_,?_,?_⟩ <;> kernel_rfl
 have HA:=hid (pO W pu _ hu.u);have HU:=hid hu;have HQ:=hid hq;have GG:=hid hS;rw [List.length_map] at HA;clear hu hq hS
 go_enter func50,ntmps50
 go_wp2_with fail
 refine HA.out.mono ?_
 rintro e w1 ⟨rfl,rfl⟩
 go_wp2_with fail
 go_loopw [3,9] (fun v i wr=>∃ k:Nat,k≤qs.length∧i=.int .i64 k∧Hid (wr.ownsRow W.heap.size 9 1 v (fC (qs.take k)).length ((fC (qs.take k)).map Value.string))∧Hid (Below W.heap.size W wr)) (fun _ i _=>qs.length - (intOf i).toNat)
 case atStart=>exact ⟨0,by omega,rfl,hid ⟨rfl,.inl ⟨rfl,rfl⟩⟩,hid (Below.refl _ _)⟩
 case round =>
  obtain ⟨k,hk,rfl,HR,HB⟩:=hrel
  by_cases hlt:k < qs.length
  ·obtain ⟨q,hqk⟩:∃ q,qs[k]?=some q:=⟨_,List.getElem?_eq_getElem hlt⟩
   have hpk:(qs.map PV.pc)[k]?=some q.pc:=by rw [List.getElem?_map,hqk]; rfl
   have hbw:=HB.out;have hu2:=HU.out.step hbw;obtain ⟨p0,p1,p2,p3,p4,p5,p6,p7,p8,p9⟩:=hu2.part k q.pc hpk;have hqa:=(HQ.out q (List.mem_of_getElem? hqk)).step hbw;have hsz:=hbw.size;have htk:=EY qs k q hqk;have hle:=MB qs (k+1);rw [htk,List.length_append] at hle;have hm:=hqa.m;obtain ⟨⟨⟨nm,tx⟩,⟨hk0,hm0,hf0,ht0,np,nn,nc,ns,kp,kn,kc⟩,first,oa,m⟩,os⟩:=q
   simp only at p0 p1 p2 p3 p4 p5 p6 p7 p8 p9 hm hle
   obtain ⟨WB,ug⟩:∃ WB,WB=wr.alloc (.cells #[.string nm,.string tx,.int .i64 hk0,.int .i64 hm0,.int .i64 hf0,.int .i64 ht0,.slice np nn nc,.slice kp kn kc,.int .i64 first,.slice (some ⟨oa,0,none⟩) m m] 132):=⟨_,rfl⟩
   have hb0:Below wr.heap.size wr WB:=by rw [ug]; exact (Below.refl _ _).alloc (Nat.le_refl _) _
   have hbc:∀ j:Nat,WB.cell? ⟨wr.heap.size,j,none⟩=(#[.string nm,.string tx,.int .i64 hk0,.int .i64 hm0,.int .i64 hf0,.int .i64 ht0,.slice np nn nc,.slice kp kn kc,.int .i64 first,.slice (some ⟨oa,0,none⟩) m m]:Array Value)[j]?:=fun j=>by rw [ug]; exact cell_of_heap (heap_alloc_new wr _) j
   have b9:WB.cell? ⟨wr.heap.size,9,none⟩=some (.slice (some ⟨oa,0,none⟩) m m):=hbc 9;have hrow:WB.ownsRow W.heap.size 9 1 u3 (fC (qs.take k)).length ((fC (qs.take k)).map Value.string):=by rw [ug]; exact HR.out.alloc _
   have b1:WB.cell? ⟨wr.heap.size,1,none⟩=some (.string tx):=hbc 1;have uN:Hid (Below W.heap.size W WB):=hid (hbw.trans (hb0.mono hsz));have hbz:=uN.out.size;have Hz:=hid htk;have O4:=hid ug;have hqo:=hqa.step hb0;have Ve:m≤10000000:=by rw [List.length_map] at hle; omega
   have H36:=hid (CB tx (GG.out _ (List.mem_of_getElem? hqk)) oa m m Ve (fun j=>(os[j]?.map (·.at_)).getD 0) (fun j=>(os[j]?.map (·.end_)).getD 0) WB hqo.lt (fun j hj=>by
    obtain ⟨v,hv⟩:∃ v,os[j]?=some v:=⟨_,List.getElem?_eq_getElem (by omega)⟩
    obtain ⟨a0,a1,a2,a3,a4⟩:=hqo.at_ j v hv;rw [hv];exact ⟨v.file,v.sp,v.decl,a0,a1,a2,a3,a4⟩))
   obtain ⟨N0,hN0⟩:∃ N0,N0=(fC (qs.take k)).length:=⟨_,rfl⟩
   rw [← hN0] at hrow hle;have Sm:=hid hN0;have Vf:Hid (m=os.length):=hid hm;have hNm:N0+m≤10000000:=by rw [List.length_map] at hle; omega
   clear hN0 htk hbw hu2 hqo Ve hqa hbc hpk hm hle hb0 hqk ug
   go_upto_region 5 with (fail)
   rw [← O4.out]
   go_wp2_with fail
   refine H36.out.mono ?_
   rintro y w3 ⟨g3,rfl,hg3,hnr,hb3⟩;have hrow3:=World.ownsRow.kept hrow (grown_below hb3 none) (Classical.em _);have hb5:=uN.out.trans (hb3.mono hbz);have Xe:=hb5.size;have yP:=hid hb5;have hnews:∀ j u,((os.map fun v=>Value.string (jy tx v.at_ v.end_)))[j]?=some u→w3.cell? ((⟨g3,0,none⟩:Addr).add j)=some u:=fun j u hj=>by
    have ha:((⟨g3,0,none⟩:Addr).add j)=⟨g3,j,none⟩:=by unfold Addr.add; split <;> simp_all
    rw [ha];obtain ⟨v,hv,rfl⟩:∃ v,os[j]?=some v∧Value.string (jy tx v.at_ v.end_)=u:=by simpa using hj
    have hjm:j < m:=by rw [Vf.out]; exact (List.getElem?_eq_some_iff.1 hv).1
    have:=(hnr.at_ j hjm).1
    rw [hv] at this;exact this
   have h1:∀ u ∈ (os.map fun v=>Value.string (jy tx v.at_ v.end_)),u.oneCell'=true:=fun u hu=>by
    obtain ⟨v,_,rfl⟩:=List.mem_map.1 hu; rfl
   have hml:(os.map fun v=>Value.string (jy tx v.at_ v.end_)).length=m * 1:=by rw [List.length_map,Nat.mul_one,Vf.out]
   clear hb3 hnr hb5 H36 hrow
   go_wp2_with (first
    | (at_builtin; refine wpList_append_own _ rfl _ _ 49 rfl W.heap.size 9 i9 _ 1 16 underlying49 hi9 hy0 hy1 hy2 rfl (by decide) _ _ _ rfl hrow3 ⟨g3,0,none⟩ m m (os.map fun v=>Value.string (jy tx v.at_ v.end_)) rfl hml hnews h1 (by unfold maxLen; omega) (by omega) Xe ?_; intro v' w4 hown' hg4 Xf)
    | go_in)
   have HO':=hid hown';have jW:=hid (yP.out.grown hg4 Xe (fun j hj=>(World.ownsRow.lt hrow3 j hj).1));clear hown' hg4 Xf hrow3 hnews
   go_roundw
   case rel =>
    refine ⟨k+1,by omega,by go_num,hid ?_,jW⟩
    rw [Hz.out,List.map_append,List.length_append,← Sm.out]
    have:=HO'.out
    rw [List.length_map,← Vf.out,List.map_map];exact this
   case measure=>simp [intOf]; omega
  ·have hkn:k=qs.length:=by omega
   have HR2:Hid (wr.ownsRow W.heap.size 9 1 u3 (fC qs).length ((fC qs).map Value.string)):=hid (by have:=HR.out; rw [hkn,List.take_length] at this; exact this);clear HR;have hlt2:¬ (k:Int) < (qs.length:Int):=by omega
   clear hkn
   go_wp2_with fail
   go_ret
   exact ⟨_,rfl,HR2.out,HB.out⟩
set_option maxHeartbeats 4000000 in
theorem uV (l:List ByteArray) (p q:Option Addr) (n c n' c':Nat) (W:World) (h:In W p n c l) (h':In W q n' c' l) (hm:n≤100000000) :
  Calls prog 34 #[.slice p n c,.slice q n' c'] W fun e W'=>e=.returned (.bool true)∧∃ d,W'=W.drewN d:=by
 have hn:=h.1;obtain rfl:n'=n:=by rw [hn]; exact h'.1
 have HI:=hid h;have HI':=hid h';clear h h' hn
 go_enter func34,ntmps34
 go_wp2_with fail
 go_loopw [5] (fun i wr=>∃ k d:Nat,k≤n'∧i=.int .i64 k∧wr=W.drewN d) (fun i _=>n' - (intOf i).toNat)
 case atStart=>exact ⟨0,0,by omega,rfl,rfl⟩
 case round =>
  obtain ⟨k,d,hk,rfl,rfl⟩:=hrel
  by_cases hlt:k < n'
  ·obtain ⟨hn1,h0 | ⟨b,o,rfl,hc,hb,hat⟩⟩:=HI.out
   ·omega
   obtain ⟨hn2,h0 | ⟨b',o',rfl,hc',hb',hat'⟩⟩:=HI'.out
   ·omega
   have hkl:k < l.length:=by omega
   have c0:=hat k hkl;have c1:=hat' k hkl;generalize l[k]=t at c0 c1;have r1:(0:Int)≤(k:Int):=by omega
   have r2:(k:Int) < (n':Int):=by omega
   have tt:(t.toList != t.toList)=false:=by simp
   clear hn1 hn2 hat hat' hkl
   go_wp2_with fail
   go_quiet (fail)
   go_wp2_with fail
   go_roundw
   case rel=>exact ⟨k+1,_,by omega,by go_num,rfl⟩
   case measure=>simp [intOf]; omega
  ·go_wp2_with fail
   go_ret
   exact ⟨rfl,d,rfl⟩
abbrev fsA:List bn:=[(⟨#[97]⟩,uj),(⟨#[98]⟩,uu)]
theorem aaj (w:World):(Op.equalIn 10000 65 (.agg #[.int .i64 0,.int .i64 0,.int .i64 0]) (.agg #[.int .i64 0,.int .i64 0,.int .i64 0])).run prog w=.ok true w:=by
 rw [run_equalIn_agg w 9999 65 _ _ (by kernel_rfl) (by kernel_rfl)];unfold Program.fieldsOf;rw [underlying65]
 simp [Op.eqFields,go_sem]
theorem Uj:jT (fsA.map (·.1)) 2:=by
 refine ⟨by decide,?_,fun h=>by simp at h⟩
 show [(⟨#[97]⟩:ByteArray),⟨#[98]⟩].Nodup
 simp
structure ExU (W:World) (pu:Nat) (p0 p1:PV):Prop where
 u:∃ gp,UAt W pu gp ([p0,p1].map PV.pc)
 v0:sG W p0
 v1:sG W p1
 f0:p0.pc.f.2=uj
 f1:p1.pc.f.2=uu
 o0:p0.os=[⟨0,4,5,1,true⟩]
 o1:p1.os=[⟨1,4,5,1,true⟩,⟨1,8,9,1,false⟩]
 n1:p1.pc.first=1
theorem UA {K pu gp:Nat} {qs:List PV} {nds:List Br} {W:World} (h:kK K fsA lF pu gp qs nds W):∃ p0 p1,ExU W pu p0 p1:=by
 have hl:qs.length=2:=h.len;have hln:nds.length=2:=by rw [h.lenn,hl]
 obtain ⟨p0,p1,rfl⟩:∃ p0 p1,qs=[p0,p1]:=by
  match qs,hl with
  | [a,b],_=>exact ⟨a,b,rfl⟩
 obtain ⟨d0,d1,rfl⟩:∃ a b,nds=[a,b]:=by
  match nds,hln with
  | [a,b],_=>exact ⟨a,b,rfl⟩
 have q0:=h.pt 0 p0 d0 rfl rfl;have q1:=h.pt 1 p1 d1 rfl rfl;have e0:p0.pc.f=(⟨#[97]⟩,uj):=(Option.some.inj q0.file).symm;have e1:p1.pc.f=(⟨#[98]⟩,uu):=(Option.some.inj q1.file).symm;obtain ⟨⟨y0,n0,t0,g0⟩,_⟩:=q0.good;obtain ⟨⟨y1,n1,t1,g1⟩,_⟩:=q1.good;rw [e0] at g0;rw [e1] at g1;have s0:=Xt g0;have s1:=Xv g1;refine ⟨p0,p1,⟨gp,h.u⟩,q0.pv,q1.pv,by rw [e0],by rw [e1],s0,s1,?_⟩
 rw [q1.first]
 show ((bG [p0]).length:Int)=1
 simp [bG,s0]
set_option maxHeartbeats 8000000 in
theorem Ep (w:World) (hk:Kw w):Calls prog 38 #[] w fun e w'=>e=.returned (.bool true)∧Below w.heap.size w w':=by
 obtain ⟨W1,hW1⟩:∃ W1,W1=w.alloc (.cells #[.string ⟨#[97]⟩,.string uj,.string ⟨#[98]⟩,.string uu] 76):=⟨_,rfl⟩
 have hb1:Below w.heap.size w W1:=by rw [hW1]; exact (Below.refl _ _).alloc (Nat.le_refl _) _
 have hc:=cell_of_heap (heap_alloc_new w (.cells #[.string ⟨#[97]⟩,.string uj,.string ⟨#[98]⟩,.string uu] 76));rw [← hW1] at hc;have hz1:w.heap.size < W1.heap.size:=by rw [hW1]; simp
 have hf:FIn W1 (some ⟨w.heap.size,0,none⟩) 2 2 fsA:=⟨rfl,.inr ⟨_,_,rfl,Nat.le_refl _,hz1,fun i f hi=>by
  match i,hi with
  | 0,hi=>obtain rfl:=Option.some.inj hi; exact ⟨hc 0,hc 1⟩
  | 1,hi=>obtain rfl:=Option.some.inj hi; exact ⟨hc 2,hc 3⟩⟩⟩
 have HL:=hid (wC fsA 2 (some ⟨w.heap.size,0,none⟩) 2 2 W1 (hk.step hb1) hf (by omega) (by decide) (by decide) (by decide) Uj);have HW1:Hid (w.alloc (.cells #[.string ⟨#[97]⟩,.string ⟨#[118,97,108,32,120,32,61,32,49]⟩,.string ⟨#[98]⟩,.string ⟨#[118,97,108,32,121,32,61,32,120]⟩] 76)=W1):=hid hW1.symm;have HB1:=hid hb1;clear hc hf hb1 hW1;have heq:=aaj
 go_enter func38,ntmps38
 go_wp2_with fail
 rw [HW1.out];refine HL.out.mono ?_
 rintro x w2 ⟨hb2,⟨k,f,hk0,hrk,rfl⟩ | ⟨_,i,f,a,c,hi,hc0,herr,_,rfl⟩ | ⟨_,pu,gp,qs,nds,hld,rfl⟩⟩
 ·exfalso
  rcases hrk with ⟨h,_⟩ | ⟨_,h,_⟩ | ⟨_,_,h,_⟩
  ·exact absurd h (by decide)
  ·exact absurd h (by decide)
  ·exact hk0 h
 ·exfalso
  match i,hi with
  | 0,hi=>obtain rfl:=Option.some.inj hi; exact Ul hc0 herr
  | 1,hi=>obtain rfl:=Option.some.inj hi; exact UG hc0 herr
 ·obtain ⟨p0,p1,hx⟩:=UA hld
  have hz2:=hb2.size;obtain ⟨W3,hW3⟩:∃ W3,W3=w2.alloc (.cells #[.int .i64 0,.int .i64 0,.int .i64 0] 65):=⟨_,rfl⟩
  have hb3:Below w2.heap.size w2 W3:=by rw [hW3]; exact (Below.refl _ _).alloc (Nat.le_refl _) _
  have HW3:=hid hW3;have hbc:=cell_of_heap (heap_alloc_new w2 (.cells #[.int .i64 0,.int .i64 0,.int .i64 0] 65));rw [← hW3] at hbc;have HFL:Hid (∀ W,Below W3.heap.size W3 W→W.cell? ⟨w2.heap.size,0,none⟩=some (.int .i64 0)∧W.cell? ⟨w2.heap.size,1,none⟩=some (.int .i64 0)∧W.cell? ⟨w2.heap.size,2,none⟩=some (.int .i64 0)):=hid fun W hW=>by
   have hl:w2.heap.size < W3.heap.size:=by rw [hW3]; simp
   exact ⟨(hW.cell (p:=⟨w2.heap.size,0,none⟩) hl).trans (hbc 0),(hW.cell (p:=⟨w2.heap.size,1,none⟩) hl).trans (hbc 1),(hW.cell (p:=⟨w2.heap.size,2,none⟩) hl).trans (hbc 2)⟩
  obtain ⟨gp',hu⟩:=hx.u;have hu3:=hu.step hb3;have hv0:=hx.v0.step hb3;have hv1:=hx.v1.step hb3;have hm1:p1.pc.m=2:=by rw [hv1.m,hx.o1]; rfl
  have HAT:=hid (at_in W3 pu gp' ([p0,p1].map PV.pc) 1 p1.pc 8 (fun j=>if j=0 then 4 else 8) (fun j=>if j=0 then 5 else 9) 1 hu3 rfl (by omega) (by rw [hx.n1]; omega) hv1.lt (fun j hj=>by
   have hj2:j=0∨j=1:=by omega
   rcases hj2 with rfl | rfl
   ·obtain ⟨_,a1,a2,_⟩:=hv1.at_ 0 ⟨1,4,5,1,true⟩ (by rw [hx.o1]; rfl)
    exact ⟨a1,a2⟩
   ·obtain ⟨_,a1,a2,_⟩:=hv1.at_ 1 ⟨1,8,9,1,false⟩ (by rw [hx.o1]; rfl)
    exact ⟨a1,a2⟩) ⟨by omega,fun i hi=>by obtain rfl:i=0:=(by omega); decide,fun i h1 h2=>by obtain rfl:i=1:=(by omega); decide⟩)
  have HB3:Hid (Below w.heap.size w W3):=hid (HB1.out.trans ((hb2.trans (hb3.mono hz2)).mono (by omega)));have hz3:=HB3.out.size;have X8:Hid (∀ W,Below W3.heap.size W3 W→Calls prog 50 #[.pointer (some ⟨pu,0,none⟩)] W fun e W'=>∃ v,e=.returned v∧W'.ownsRow W.heap.size 9 1 v 3 ([⟨#[120]⟩,⟨#[121]⟩,⟨#[120]⟩].map Value.string)∧Below W.heap.size W W'):=hid fun W hW=>by
   have hall:fC [p0,p1]=[⟨#[120]⟩,⟨#[121]⟩,⟨#[120]⟩]:=by
    simp only [fC,LV,List.flatMap_cons,List.flatMap_nil,hx.o0,hx.o1,hx.f0,hx.f1]
    rfl
   have:=yT W pu gp' [p0,p1] (hu3.step hW) (fun q hq=>by
    simp at hq
    rcases hq with rfl | rfl
    ·exact hv0.step hW
    ·exact hv1.step hW) (by rw [hall]; decide) (fun q hq=>by
    simp at hq
    rcases hq with rfl | rfl
    ·rw [hx.f0]; decide
    ·rw [hx.f1]; decide) (by simp)
   rw [hall] at this;exact this
  have hn1:=hx.n1;have TN:=hid hn1;clear hx hld hu hu3 hv0 hv1 hb2 hb3 hbc hW3 HL
  go_wp2_with fail
  rw [← HW3.out];refine HAT.out.mono ?_
  rintro x w4 ⟨⟨r,b,hr,rfl⟩,hb4⟩;obtain ⟨rfl,rfl⟩:r=2∧b=true:=by
   rcases hr with ⟨_,_,h1,h2⟩ | ⟨h,_⟩
   ·exact ⟨by rw [h1,TN.out]; rfl,h2⟩
   ·exact absurd ⟨by rw [hm1]; decide,by decide⟩ h
  obtain ⟨c0,c1,c2⟩:=HFL.out w4 hb4;have KH:=hid (X8.out w4 hb4);have HB4:=hid (HB3.out.trans (hb4.mono hz3));clear hr hb4 HAT X8 HFL hn1 hm1
  go_wp2_with fail
  refine KH.out.mono ?_
  rintro x w5 ⟨v,rfl,hrow,hb5⟩;obtain ⟨g,cap,rfl,hg1,hg2,hg3,hg4⟩:=jo hrow (by omega);obtain ⟨W6,KD⟩:∃ W6,W6=w5.alloc (.cells #[.string ⟨#[120]⟩,.string ⟨#[121]⟩,.string ⟨#[120]⟩] 9):=⟨_,rfl⟩
  have hb6:Below w5.heap.size w5 W6:=by rw [KD]; exact (Below.refl _ _).alloc (Nat.le_refl _) _
  have Xg:=cell_of_heap (heap_alloc_new w5 (.cells #[.string ⟨#[120]⟩,.string ⟨#[121]⟩,.string ⟨#[120]⟩] 9));rw [← KD] at Xg;have U7:w5.heap.size < W6.heap.size:=by rw [KD]; simp
  have HTX:=hid (uV [⟨#[120]⟩,⟨#[121]⟩,⟨#[120]⟩] (some ⟨g,0,none⟩) (some ⟨w5.heap.size,0,none⟩) 3 cap 3 3 W6
   ⟨rfl,.inr ⟨g,0,rfl,hg3,Nat.lt_of_lt_of_le hg2 hb6.size,fun i hi=>by
    rw [Nat.zero_add,hb6.cell (p:=⟨g,i,none⟩) hg2];exact eH hrow i _ (by rw [List.getElem?_map,List.getElem?_eq_getElem hi]; rfl)⟩⟩
   ⟨rfl,.inr ⟨w5.heap.size,0,rfl,Nat.le_refl _,U7,fun i hi=>by
    rw [Nat.zero_add]
    match i,hi with
    | 0,_=>exact Xg 0
    | 1,_=>exact Xg 1
    | 2,_=>exact Xg 2⟩⟩ (by omega))
  have HW6:=hid KD;have KC:Hid (Below w.heap.size w W6):=hid (HB4.out.trans ((hb5.trans (hb6.mono hb5.size)).mono HB4.out.size));clear hrow hb5 hb6 Xg KD KH c0 c1 c2
  go_wp2_with fail
  rw [← HW6.out];refine HTX.out.mono ?_
  rintro x w7 ⟨rfl,d,rfl⟩
  go_wp2_with fail
  go_ret
  exact ⟨rfl,below_drewN KC.out d⟩
end Go.Proofs.YtmpmfamiegpmgaaGreatDoor
