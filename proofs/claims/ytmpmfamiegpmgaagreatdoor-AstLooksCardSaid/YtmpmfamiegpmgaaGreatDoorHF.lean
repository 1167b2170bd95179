/-
  Plain facts for the law AstLooks: sorted numbers, each once; which nodes are of some kinds.; The law AstLooks, walked.
-/
import Derived.Test.YtmpmfamiegpmgaaGreatDoorHD
import Derived.Test.YtmpmfamiegpmgaaGreatDoorGZ
import Derived.Test.YtmpmfamiegpmgaaGreatDoorHE
import Derived.Test.YtmpmfamiegpmgaaGreatDoorHB
import Derived.Test.YtmpmfamiegpmgaaGreatDoorGZB
import Derived.Test.YtmpmfamiegpmgaaGreatDoorGC
import Derived.Deep.Cut
import Derived.Deep.CutRange
import Derived.Deep.RegionHeld3
namespace Go.Proofs.YtmpmfamiegpmgaaGreatDoor
open Tryz
open Go.Lib (compact hid)
open Go.RowKit
set_option maxRecDepth 20000
set_option linter.unusedVariables false
set_option linter.unusedSimpArgs false
theorem FX (d:Array Int) (n:Nat) (hs:∀ i j,i≤j→j < n→d[i]!≤d[j]!):∀ m,m≤n→kL (Lib.compactUpTo d m)∧(∀ x,x ∈ Lib.compactUpTo d m ↔ ∃ j,j < m∧x=d[j]!):=by
 intro m
 induction m with
 | zero=>intro _; exact ⟨by simp [Lib.compactUpTo,kL],fun x=>by simp [Lib.compactUpTo]⟩
 | succ m ih =>
  intro hm;obtain ⟨h1,h2⟩:=ih (by omega);rw [Lib.compactUpTo_succ]
  by_cases hk:Lib.keeps d m=true
  ·rw [if_pos hk]
   refine ⟨List.pairwise_append.2 ⟨h1,by simp,fun a ha b hb=>?_⟩,fun x=>?_⟩
   ·obtain ⟨j,hj,rfl⟩:=(h2 a).1 ha
    rw [List.mem_singleton.1 hb];have hm0:m≠0:=by omega
    have hne:d[m]!≠d[m - 1]!:=by
     unfold Lib.keeps at hk;simp only [Bool.or_eq_true,decide_eq_true_eq,bne_iff_ne] at hk
     rcases hk with hk | hk
     ·omega
     ·first | exact hk | exact fun e=>hk e.symm | simpa using hk
    have a1:=hs j (m - 1) (by omega) (by omega);have a2:=hs (m - 1) m (by omega) (by omega)
    omega
   ·rw [List.mem_append,h2,List.mem_singleton]
    constructor
    ·rintro (⟨j,hj,rfl⟩ | rfl)
     ·exact ⟨j,by omega,rfl⟩
     ·exact ⟨m,by omega,rfl⟩
    ·rintro ⟨j,hj,rfl⟩
     rcases Nat.lt_or_ge j m with h | h
     ·exact .inl ⟨j,h,rfl⟩
     ·obtain rfl:j=m:=by omega
      exact .inr rfl
  ·rw [if_neg hk,List.append_nil]
   refine ⟨h1,fun x=>?_⟩
   rw [h2];have hm0:m≠0∧d[m]! =d[m - 1]!:=by
    unfold Lib.keeps at hk;simp only [Bool.or_eq_true,decide_eq_true_eq,bne_iff_ne,not_or] at hk;obtain ⟨q1,q2⟩:=hk;refine ⟨q1,?_⟩
    first | exact Decidable.not_not.1 q2 | exact (Decidable.not_not.1 q2).symm | simpa using q2
   constructor
   ·rintro ⟨j,hj,rfl⟩
    exact ⟨j,by omega,rfl⟩
   ·rintro ⟨j,hj,rfl⟩
    rcases Nat.lt_or_ge j m with h | h
    ·exact ⟨j,h,rfl⟩
    ·obtain rfl:j=m:=by omega
     exact ⟨j - 1,by omega,hm0.2⟩
theorem uC (D:List Int):kL (compact (D.mergeSort fun x y=>decide (x≤y)))∧∀ x,x ∈ compact (D.mergeSort fun x y=>decide (x≤y)) ↔ x ∈ D:=by
 obtain ⟨ts,hts⟩:∃ ts,ts=D.mergeSort fun x y=>decide (x≤y):=⟨_,rfl⟩
 have hp:=List.pairwise_mergeSort (le:=fun x y:Int=>decide (x≤y)) (fun a b c h1 h2=>by simp at *; omega) (fun a b=>by simp; omega) D;have hperm:=List.mergeSort_perm D (fun x y:Int=>decide (x≤y));rw [← hts] at hp hperm ⊢;have hget:∀ i,(h:i < ts.length)→ts.toArray[i]! =ts[i]:=fun i h=>by simp [h]
 have hs:∀ i j,i≤j→j < ts.length→ts.toArray[i]!≤ts.toArray[j]!:=fun i j hij hj=>by
  rw [hget i (by omega),hget j hj]
  rcases Nat.lt_or_ge i j with h | h
  ·have:=(List.pairwise_iff_getElem.1 hp) i j (by omega) hj h
   simpa using this
  ·obtain rfl:i=j:=by omega
   exact Int.le_refl _
 obtain ⟨h1,h2⟩:=FX ts.toArray ts.length hs ts.length (Nat.le_refl _);refine ⟨h1,fun x=>?_⟩
 rw [← hperm.mem_iff];refine (h2 x).trans ⟨?_,fun hx=>?_⟩
 ·rintro ⟨j,hj,rfl⟩
  rw [hget j hj]; exact List.getElem_mem hj
 ·obtain ⟨j,hj,rfl⟩:=List.getElem_of_mem hx
  exact ⟨j,hj,(hget j hj).symm⟩
theorem Ho (D:List Int) (m:Nat) (t:Nat→Bool) (h1:∀ x ∈ D,∃ j:Nat,j < m∧x=j) (h2:∀ j,j < m→(t j=true ↔ (j:Int) ∈ D)) :
  compact (D.mergeSort fun x y=>decide (x≤y))=((List.range m).filter t).map fun j:Nat=>(j:Int):=by
 obtain ⟨c1,c2⟩:=uC D;refine vW c1 ?_ fun x=>?_
 ·unfold kL
  rw [List.pairwise_map];exact ((List.pairwise_lt_range).filter t).imp fun h=>by omega
 ·rw [c2,List.mem_map]
  constructor
  ·intro hx
   obtain ⟨j,hj,rfl⟩:=h1 x hx;exact ⟨j,List.mem_filter.2 ⟨List.mem_range.2 hj,(h2 j hj).2 hx⟩,rfl⟩
  ·rintro ⟨j,hj,rfl⟩
   obtain ⟨q1,q2⟩:=List.mem_filter.1 hj;exact (h2 j (List.mem_range.1 q1)).1 q2
theorem N7 (x:Br):∀ y:Br,x.ntr=y.ntr→x.Alk true y:=by
 induction x using Br.ind with
 | hP h ks ih =>
  intro y hy;obtain ⟨g,js⟩:=y;simp only [Br.ntr,Ntr.mk.injEq] at hy;obtain ⟨h1,h2,h3,h4,h5,h6⟩:=hy;rw [qB,qB] at h6;simp only [Br.Alk,Br.h,Br.ks];refine ⟨h1,h2,h5,fun _=>⟨h3,h4⟩,(Dw _ _ _).2 ?_⟩
  have hl:ks.length=js.length:=by have:=congrArg List.length h6; simpa using this
  refine ⟨hl,fun i a b=>ih _ (List.getElem_mem a) _ ?_⟩
  have:=List.getElem_of_eq h6 (by simpa using a)
  simpa using this
theorem Ll (x:Br):∀ y:Br,x.ntr=y.ntr→x.Few→y.Few:=by
 induction x using Br.ind with
 | hP h ks ih =>
  intro y hy hf;obtain ⟨g,js⟩:=y;simp only [Br.ntr,Ntr.mk.injEq] at hy;obtain ⟨h1,h2,h3,h4,h5,h6⟩:=hy;rw [qB,qB] at h6;have hl:ks.length=js.length:=by have:=congrArg List.length h6; simpa using this
  simp only [Br.Few,fM] at hf ⊢;refine ⟨by rw [← h5]; exact hf.1,by rw [← hl]; exact hf.2.1,fun b hb=>?_⟩
  obtain ⟨i,hi,rfl⟩:=List.getElem_of_mem hb;have hk:i < ks.length:=by omega
  have:=List.getElem_of_eq h6 (by simpa using hk)
  exact ih _ (List.getElem_mem hk) _ (by simpa using this) (hf.2.2 _ (List.getElem_mem hk))
set_option maxHeartbeats 400000 in
theorem zC (ks:List Int) (v:Int) (p:Option Addr) (n c:Nat) (w:World) (hin:InV mkI w p n c ks) (hm:n≤1000) :
  Calls prog 99 #[.slice p n c,.int .i64 v] w fun e w'=>(∃ r:Int,e=.returned (.int .i64 r)∧decide (0≤r)=nJ ks v)∧w=w':=by
 have HA:=hid hin;have HN:Hid (n=ks.length):=hid hin.1;clear hin
 go_enter func99,ntmps99
 go_wp2
 go_loop [8] (fun i=>∃ k:Nat,k≤n∧i=.int .i64 k∧Hid (∀ j,(h:j < ks.length)→j < k→ks[j]≠v)) (fun i=>n - (intOf i).toNat)
 case atStart=>exact ⟨0,by omega,rfl,hid (fun j _ h=>by omega)⟩
 case round =>
  obtain ⟨k,hk,rfl,HJ⟩:=hrel
  by_cases hlt:k < n
  ·have hkl:k < ks.length:=by rw [← HN.out]; exact hlt
   obtain ⟨b,off,rfl,hc,hb,hat⟩:=HA.out.2.resolve_left (by omega);have hcell:w.cell? ⟨b,off+k,none⟩=some (.int .i64 ks[k]):=hat k hkl;have h0:(0:Int)≤(k:Int):=by omega
   have h1:(k:Int) < (n:Int):=by omega
   clear hat
   by_cases he:v=ks[k]
   ·have HB:Hid (decide (0≤(k:Int))=nJ ks v):=hid (by
     have:nJ ks v=true:=by unfold nJ; rw [he]; exact List.contains_iff_mem.2 (List.getElem_mem hkl)
     rw [this]; simp)
    generalize ks[k]=x at *;subst he
    go_wp2
    go_ret
    exact ⟨⟨_,rfl,HB.out⟩,rfl⟩
   ·have HJ2:Hid (∀ j,(h:j < ks.length)→j < k+1→ks[j]≠v):=hid fun j h hj=>by
     rcases Nat.lt_or_ge j k with h3 | h3
     ·exact HJ.out j h h3
     ·obtain rfl:j=k:=by omega
      exact fun e=>he e.symm
    have he2:(v == ks[k])=false:=by simpa using he
    generalize ks[k]=x at *
    go_wp2
    go_round
    case rel=>exact ⟨k+1,by omega,by go_num,HJ2⟩
    case measure=>simp [intOf]; omega
  ·have HB:Hid (decide ((0:Int)≤-1)=nJ ks v):=hid (by
    have:nJ ks v=false:=by
     unfold nJ;rw [Bool.eq_false_iff];intro h;obtain ⟨j,hj,e⟩:=List.getElem_of_mem (List.contains_iff_mem.1 h);exact HJ.out j hj (by rw [← HN.out] at hj; omega) e
    rw [this]; rfl)
   go_wp2
   go_ret
   exact ⟨⟨_,rfl,HB.out⟩,rfl⟩
theorem F7 (ks:List Int) (v:Int) (p:Option Addr) (n c:Nat) (w:World) (hin:InV mkI w p n c ks) (hm:n≤1000) :
  Calls prog 59 #[.slice p n c,.int .i64 v] w fun e w'=>e=.returned (.bool (ks.contains v))∧w=w':=by
 have H:=hid (zC ks v p n c w hin hm);clear hin
 change Calls _ _ _ _ (fun e w'=>e=.returned (.bool (nJ ks v))∧w=w')
 generalize nJ ks v=q at *
 go_enter func59,ntmps59
 go_wp2_with fail
 refine H.out.mono ?_
 rintro e w1 ⟨⟨r,rfl,hr⟩,rfl⟩;have HR:=hid hr;clear hr
 go_wp2_with fail
 go_ret
 exact ⟨aK HR.out,rfl⟩
def jI (w:World) (g m:Nat) (t:Nat→Bool):Prop:=(∃ cs,w.heap[g]?=some (.cells cs 4 (0,0)))∧∀ i,i < m→w.cell? ⟨g,i,none⟩=some (.bool (t i))
theorem jI.same {w w':World} {g m:Nat} {t:Nat→Bool} (h:jI w g m t) (hb:w'.heap[g]?=w.heap[g]?):jI w' g m t:=by
 obtain ⟨⟨cs,h1⟩,h2⟩:=h;exact ⟨⟨cs,hb.trans h1⟩,fun i hi=>(ed hb i).trans (h2 i hi)⟩
theorem jI.set {w:World} {g m:Nat} {t:Nat→Bool} (h:jI w g m t) {j:Nat} (hj:j < m):jI (w.setCell ⟨g,j,none⟩ (.bool true)) g m (fun i=>t i || decide (i=j)):=by
 obtain ⟨⟨cs,h1⟩,h2⟩:=h;refine ⟨⟨_,iT h1 j _⟩,fun i hi=>?_⟩
 by_cases e:i=j
 ·subst e
  rw [World.cell?_setCell_same _ _ _ (h2 i hi)]; simp
 ·rw [nV (by omega) (h2 i hi)]; simp [e]
theorem jI.ext {w:World} {g m:Nat} {t t':Nat→Bool} (h:jI w g m t) (he:∀ i,i < m→t' i=t i):jI w g m t' :=
 ⟨h.1,fun i hi=>by rw [he i hi]; exact h.2 i hi⟩
theorem jI.froz {w:World} {g m:Nat} {t:Nat→Bool} (h:jI w g m t) (j:Nat):w.frozen? ⟨g,j,none⟩=false:=by
 obtain ⟨⟨cs,h1⟩,_⟩:=h
 simp [World.frozen?,h1]
def kR (m:Nat) (dv:Nat→Bool) (l:List Int) (j:Nat):Bool:=decide ((j:Int) ∈ l.filter (aX m dv))
theorem oU (m:Nat) (dv:Nat→Bool) (l:List Int) (x:Int) (j:Nat):kR m dv (l++[x]) j=(kR m dv l j || (decide ((j:Int)=x) && aX m dv x)):=by
 unfold kR;rw [List.filter_append]
 by_cases hx:aX m dv x=true
 ·simp [List.filter_cons,hx,Bool.or_comm]
 ·simp [List.filter_cons,hx]
def lI (kn:Nat) (kl:List Int) (v:Int):Bool:=decide (kn=0) || kl.contains v
theorem wI (kl:List Int) (j:Nat) (h:j < kl.length) (v:Int):(kl.take (j+1)).contains v=((kl.take j).contains v || (v == kl[j])):=by
 rw [List.take_succ_eq_append_getElem h];generalize kl.take j=l;generalize kl[j]=x
 by_cases h1:v ∈ l <;> by_cases h2:v=x <;> simp [h1,h2]
theorem Gx {W:World} {B n c:Nat} {q:Option Addr} {l:List Int} (h:W.ownsRow B 3 1 (.slice q n c) n (l.map mkI)) (hn:n=l.length):InV mkI W q n c l:=by
 refine ⟨hn,?_⟩
 by_cases h0:n=0
 ·exact .inl h0
 obtain ⟨g,cs,rfl,hle,hg,hh⟩:=oq h (by omega);refine .inr ⟨g,0,rfl,hle,hlt hh,fun i hi=>?_⟩
 rw [Nat.zero_add];exact kJ h i _ (by rw [List.getElem?_map,List.getElem?_eq_getElem hi]; rfl)
theorem sD (D:List Int):(compact (D.mergeSort fun x y=>decide (x≤y))).length≤D.length:=by
 have:=FV (D.mergeSort fun x y=>decide (x≤y))
 rwa [List.length_mergeSort] at this
theorem wP (nd:Br) (m c:Nat) (sp:Option Addr) (dv:Nat→Bool) (w:World) (hl:nd.Lies w) (hf:Eo nd) (hd:MZ w sp m c dv) (hm:m≤500) (hwf:Wfs nd) :
  Calls prog 28 #[nd.h.val,.slice sp m c] w fun x w'=>∃ p n cap,x=.returned (.slice p n cap)∧InV mkI w' p n cap (compact (((aS nd.flatB).filter (aX m dv)).mergeSort fun x y=>decide (x≤y)))∧n≤500∧Below w.heap.size w w':=by
 obtain ⟨oa,off,h1,h2,h3⟩:∃ oa off,(m=0∨sp=some ⟨oa,off,none⟩∧oa < w.heap.size)∧m≤c∧∀ i,i < m→w.cell? ⟨oa,off+i * 5+4,none⟩=some (.bool (dv i)):=by
  rcases hd with h0 | ⟨b,off,h1,h2,h3,h4⟩
  ·exact ⟨0,0,.inl h0,by omega,fun i hi=>by omega⟩
  ·exact ⟨b,off,.inr ⟨h1,h3⟩,h2,h4⟩
 have hn:=hf.len;have hs:=hf.nms
 by_cases hne:(aS nd.flatB).filter (aX m dv)=[]
 ·refine (uq nd oa off m c sp dv w hl (by omega) h1 h2 h3 (by omega) (by omega) hwf hne).mono ?_
  rintro x w' ⟨p,cap,rfl,hb⟩;refine ⟨p,0,cap,rfl,⟨?_,.inl rfl⟩,by omega,hb⟩
  rw [hne];have h:=sD ([]:List Int);rw [List.length_nil] at h
  omega
 ·refine (uH nd oa off m c sp dv w hl (by omega) h1 h2 h3 (by omega) (by omega) hwf hne).mono ?_
  rintro x w' ⟨g,cap,rfl,hr,hb⟩;refine ⟨_,_,cap,rfl,Gx hr rfl,?_,hb⟩
  have:=sD ((aS nd.flatB).filter (aX m dv))
  have:=List.length_filter_le (aX m dv) (aS nd.flatB)
  omega
set_option maxHeartbeats 40000000 in
theorem Jw (a b:Br) (op:Option Addr) (m oc:Nat) (dv:Nat→Bool) (kp:Option Addr) (kn kc:Nat) (kl:List Int) (W:World) (ha:a.Lies W∧Wfs a) (hb:b.Lies W) (hm63:m≤maxLen) (hdv:MZ W op m oc dv) (QV:kn≤maxLen) (J3:InV mkI W kp kn kc kl) (hk:Kw W) :
  Calls prog 4 #[a.h.val,b.h.val,.slice op m oc,.slice kp kn kc] W fun e w'=>e=.returned (.bool true)∧Below W.heap.size W w':=by
 obtain ⟨w1,h1⟩:∃ w1,w1=W.alloc (.cells #[.int .i64 a.h.k,.int .i64 a.h.m,.int .i64 a.h.f,.int .i64 a.h.t,.slice a.h.np a.h.nn a.h.nc,.slice a.h.kp a.h.kn a.h.kc] 26):=⟨_,rfl⟩
 obtain ⟨w2,h2⟩:∃ w2,w2=w1.alloc (.cells #[.int .i64 b.h.k,.int .i64 b.h.m,.int .i64 b.h.f,.int .i64 b.h.t,.slice b.h.np b.h.nn b.h.nc,.slice b.h.kp b.h.kn b.h.kc] 26):=⟨_,rfl⟩
 have hz1:w1.heap.size=W.heap.size+1:=by rw [h1]; simp
 have hz2:w2.heap.size=W.heap.size+2:=by rw [h2]; simp [hz1]
 have b1:Below W.heap.size W w1:=by rw [h1]; exact (Below.refl _ _).alloc (Nat.le_refl _) _
 have b2:Below w1.heap.size w1 w2:=by rw [h2]; exact (Below.refl _ _).alloc (Nat.le_refl _) _
 have b02:Below W.heap.size W w2:=b1.trans (b2.mono (by omega));have ca:bP w1 W.heap.size 0 a.h:=by rw [h1]; exact gX W a.h 26
 have cb:bP w2 w1.heap.size 0 b.h:=by rw [h2]; exact gX w1 b.h 26
 rw [hz1] at cb;have KX:Hid (∀ w',Below w2.heap.size w2 w'→bP w' W.heap.size 0 a.h):=hid fun w' hw=>(ca.step (by omega) b2).step (by omega) hw
 have OQ:Hid (∀ w',Below w2.heap.size w2 w'→bP w' (W.heap.size+1) 0 b.h):=hid fun w' hw=>cb.step (by omega) hw
 have JR:Hid (∀ w',Below w2.heap.size w2 w'→a.Lies w'):=hid fun w' hw=>((ha.1.step _ b02).step _ hw)
 have SB:Hid (∀ w',Below w2.heap.size w2 w'→b.Lies w'):=hid fun w' hw=>((hb.step _ b02).step _ hw)
 have Xb:Hid (∀ w',Below w2.heap.size w2 w'→InV mkI w' kp kn kc kl):=hid fun w' hw=>((J3.step b02).step hw)
 have HKW:Hid (∀ w',Below w2.heap.size w2 w'→Kw w'):=hid fun w' hw=>((hk.step b02).step hw)
 have HB0:Hid (∀ w',Below w2.heap.size w2 w'→Below W.heap.size W w'):=hid fun w' hw=>b02.trans (hw.mono (by omega))
 have HDV:Hid (∀ w',Below w2.heap.size w2 w'→MZ w' op m oc dv):=hid fun w' hw=>by
  refine hdv.imp id ?_
  rintro ⟨bb,off,h1,h2,h3,h4⟩;have hbl:bb < w2.heap.size:=Nat.lt_of_lt_of_le h3 b02.size;exact ⟨bb,off,h1,h2,Nat.lt_of_lt_of_le hbl hw.size,fun i hi=>(hw.cell (p:=⟨bb,_,none⟩) hbl).trans ((b02.cell (p:=⟨bb,_,none⟩) h3).trans (h4 i hi))⟩
 have UZ:=hid ha.2;have HKL:Hid (kn=kl.length):=hid J3.1;have HFA:Hid (∀ w',Below w2.heap.size w2 w'→Calls prog 22 #[.agg #[.int .i64 a.h.k,.int .i64 a.h.m,.int .i64 a.h.f,.int .i64 a.h.t,.slice a.h.np a.h.nn a.h.nc,.slice a.h.kp a.h.kn a.h.kc]] w' (Lc a w')):=hid fun w' hw=>xx a w' (JR.out w' hw)
 have HFB:Hid (∀ w',Below w2.heap.size w2 w'→Calls prog 22 #[.agg #[.int .i64 b.h.k,.int .i64 b.h.m,.int .i64 b.h.f,.int .i64 b.h.t,.slice b.h.np b.h.nn b.h.nc,.slice b.h.kp b.h.kn b.h.kc]] w' (Lc b w')):=hid fun w' hw=>xx b w' (SB.out w' hw)
 have yF:Hid (∀ w',Below w2.heap.size w2 w'→Calls prog 16 #[] w' fun e w''=>e=.returned (.bool true)∧Below w'.heap.size w' w''):=hid fun w' hw=>EM w' (HKW.out w' hw)
 have HR2:Hid (Below w2.heap.size w2 w2):=hid (Below.refl _ _);have HW2:Hid (w2=(W.alloc (.cells #[.int .i64 a.h.k,.int .i64 a.h.m,.int .i64 a.h.f,.int .i64 a.h.t,.slice a.h.np a.h.nn a.h.nc,.slice a.h.kp a.h.kn a.h.kc] 26)).alloc (.cells #[.int .i64 b.h.k,.int .i64 b.h.m,.int .i64 b.h.f,.int .i64 b.h.t,.slice b.h.np b.h.nn b.h.nc,.slice b.h.kp b.h.kn b.h.kc] 26)):=hid (by rw [h2,h1]);have HF2:=hid (HFA.out w2 HR2.out);obtain ⟨a0,a1,a2,a3,a4,a5⟩:=(KX.out w2 HR2.out).box;have acr:=hid hm63;have acs:=hid QV;have HZ2:=hid hz2;clear h1 h2 hz1 hz2 b1 b2 b02 ca cb ha hb hm63 hdv QV J3 hk
 show Calls prog 4 #[.agg #[.int .i64 a.h.k,.int .i64 a.h.m,.int .i64 a.h.f,.int .i64 a.h.t,.slice a.h.np a.h.nn a.h.nc,.slice a.h.kp a.h.kn a.h.kc],.agg #[.int .i64 b.h.k,.int .i64 b.h.m,.int .i64 b.h.f,.int .i64 b.h.t,.slice b.h.np b.h.nn b.h.nc,.slice b.h.kp b.h.kn b.h.kc],.slice op m oc,.slice kp kn kc] W _
 go_enter func4,ntmps4
 go_upto_region 1 with (fail)
 rw [← HW2.out]
 go_wp2_with fail
 clear a0 a1 a2 a3 a4 a5;refine HF2.out.mono ?_
 rintro e w3 ⟨y1,rfl,hf1,hb3⟩;have HB3:=hid hb3;have HFa:=hid hf1;clear hf1 hb3 HF2
 cases y1
 ·have H8:=hid (yF.out w3 HB3.out)
  go_wp2_with fail
  refine H8.out.mono ?_
  rintro e w4 ⟨rfl,hb4⟩;have HB4:=hid (HB0.out _ (HB3.out.trans (hb4.mono HB3.out.size)));clear hb4 H8
  go_wp2_with fail
  go_ret
  exact ⟨rfl,HB4.out⟩
 have rF:Hid (Eo a):=hid (HFa.out rfl);obtain ⟨b0,b1,b2,b3,b4,b5⟩:=(OQ.out w3 HB3.out).box;have HF3:=hid (HFB.out w3 HB3.out)
 go_wp2_with fail
 clear b0 b1 b2 b3 b4 b5;refine HF3.out.mono ?_
 rintro e w4 ⟨y2,rfl,hf2,hb4⟩;have HB4:=hid (HB3.out.trans (hb4.mono HB3.out.size));have HFb:=hid hf2;clear hf2 hb4 HF3
 cases y2
 ·have H8:=hid (yF.out w4 HB4.out)
  go_wp2_with fail
  refine H8.out.mono ?_
  rintro e w5 ⟨rfl,hb5⟩;have mg:=hid (HB0.out _ (HB4.out.trans (hb5.mono HB4.out.size)));clear hb5 H8
  go_wp2_with fail
  go_ret
  exact ⟨rfl,mg.out⟩
 have acw:Hid (Eo b):=hid (HFb.out rfl)
 by_cases hm:m≤500
 case neg =>
  have hm1:(500:Int) < (m:Int):=by omega
  have H8:=hid (yF.out w4 HB4.out)
  go_wp2_with fail
  refine H8.out.mono ?_
  rintro e w5 ⟨rfl,hb5⟩;have mg:=hid (HB0.out _ (HB4.out.trans (hb5.mono HB4.out.size)));clear hb5 H8
  go_wp2_with fail
  go_ret
  exact ⟨rfl,mg.out⟩
 have hm1:¬ (500:Int) < (m:Int):=by omega
 by_cases hkn:kn≤50
 case neg =>
  have hk1:(50:Int) < (kn:Int):=by omega
  have H8:=hid (yF.out w4 HB4.out)
  go_wp2_with fail
  refine H8.out.mono ?_
  rintro e w5 ⟨rfl,hb5⟩;have mg:=hid (HB0.out _ (HB4.out.trans (hb5.mono HB4.out.size)));clear hb5 H8
  go_wp2_with fail
  go_ret
  exact ⟨rfl,mg.out⟩
 have hk1:¬ (50:Int) < (kn:Int):=by omega
 obtain ⟨L,hL⟩:∃ L,L=a.flatB.length:=⟨_,rfl⟩
 have HL:=hid hL;have hL2:L≤200:=by have:=rF.out.len; omega
 have pJ:Hid (Calls prog 23 #[.agg #[.int .i64 a.h.k,.int .i64 a.h.m,.int .i64 a.h.f,.int .i64 a.h.t,.slice a.h.np a.h.nn a.h.nc,.slice a.h.kp a.h.kn a.h.kc]] w4 fun e w'=>∃ v,e=.returned v∧w'.ownsRow w4.heap.size 26 6 v L (bg a.flatB)∧Below w4.heap.size w4 w'):=hid (by rw [hL]; exact ww a w4 (JR.out w4 HB4.out) (by omega));obtain ⟨a0,a1,a2,a3,a4,a5⟩:=(KX.out w4 HB4.out).box;clear hL
 go_wp2_with fail
 clear a0 a1 a2 a3 a4 a5;refine pJ.out.mono ?_
 rintro e w5 ⟨v,rfl,pG,hb5⟩;obtain ⟨sp,sc,rfl⟩:=vz pG;rw [vg] at pG;have mg:=hid (HB4.out.trans (hb5.mono HB4.out.size));have jP:=hid pG;clear hb5 pG pJ;obtain ⟨i4,hi4,hy0,hy1,hy2⟩:∃ i4,prog.info? 4=some i4∧i4.zero=some (.bool false)∧i4.size=1∧i4.bytes=1:=by
  refine ⟨_,rfl,?_,?_,?_⟩ <;> kernel_rfl
 go_wp2_with (at_make; refine wpList_make_full _ rfl _ _ 39 rfl w5.heap.size 4 i4 (.bool false) 1 underlying39 hi4 hy0 hy1 _ _ _ _ m rfl rfl rfl rfl (by rw [hy2]; omega) (by unfold maxLen; omega) (Nat.le_refl _) ?_; intro w6 KY oV)
 obtain ⟨g,hg⟩:∃ g,g=w5.heap.size:=⟨_,rfl⟩
 have SN:Below w5.heap.size w5 w6:=(Below.refl _ _).grown oV (Nat.le_refl _) (fun j hj=>by cases hj);have hmt:jI w6 g m (kR m dv []):=by
  obtain ⟨gg,cs,hq,_,_,hh⟩ | h0:(∃ gg cs,(some (⟨w5.heap.size,0,none⟩:Addr))=some ⟨gg,0,none⟩∧m≤m∧w5.heap.size≤gg∧w6.heap[gg]?=some (.cells cs 4 (0,0)))∨False:=by
   left
   obtain ⟨_,⟨h1,_⟩ | ⟨g',cc,cur,hv,hge,hh,hle,_⟩⟩:=id KY
   ·cases h1
   ·simp only [Value.slice.injEq,Option.some.injEq,Addr.mk.injEq,and_true,true_and] at hv
    obtain ⟨rfl,rfl⟩:=hv;exact ⟨_,cur,rfl,Nat.le_refl _,Nat.le_refl _,hh⟩
  ·simp only [Option.some.injEq,Addr.mk.injEq,and_true] at hq
   subst hq;rw [hg];refine ⟨⟨cs,hh⟩,fun i hi=>?_⟩
   refine (kJ KY i (.bool false) ?_).trans (by simp [kR])
   rw [show (Value.bool false).cells=#[.bool false] from rfl,toList_madeCells_one,Nat.mul_one,List.getElem?_replicate]
   simp [hi]
  ·exact h0.elim
 have HMT:=hid hmt;have YU:=hid SN;have YV:=hid hg;have qm:=hid (row_step jP.out SN);have VX:g < w6.heap.size:=by
  obtain ⟨cs,h1⟩:=hmt.1;exact hlt h1
 have Xq:=hid VX;rw [← hg];clear hg SN hmt KY oV VX hm1 hk1 hL2;have Xl:=hid hkn;have QR:=hid (show L≤200 by have:=rF.out.len; have:=HL.out; omega);obtain ⟨i26,yI,hx0,hx1,hx2⟩:∃ i26,prog.info? 26=some i26∧i26.zero=some (.agg #[.int .i64 0,.int .i64 0,.int .i64 0,.int .i64 0,.slice none 0 0,.slice none 0 0])∧i26.size=6∧i26.bytes=80:=by
  refine ⟨_,rfl,?_,?_,?_⟩ <;> kernel_rfl
 have aaP:=QR.out
 go_wp2_with fail
 go_loopw [10,50] (fun v10 i wr=>∃ (k:Nat) (q:Option Addr) (n c:Nat),k≤L∧i=.int .i64 k∧v10=.slice q n c∧Hid (n=((a.flatB.take k).filter fun y=>lI kn kl y.h.k).length)∧n≤k∧Hid (wr.ownsRow w6.heap.size 26 6 (.slice q n c) n (aT ((a.flatB.take k).filter fun y=>lI kn kl y.h.k)))∧Hid (jI wr g m (kR m dv (aS (a.flatB.take k))))∧Hid (Below w5.heap.size w5 wr)∧Hid (w6.heap.size≤wr.heap.size)) (fun _ i _=>L - (intOf i).toNat)
 case atStart=>exact ⟨0,none,0,0,by omega,rfl,rfl,hid (by simp),by omega,hid ⟨by simp [aT],.inl ⟨rfl,rfl⟩⟩,hid (by simpa [aS] using HMT.out),YU,hid (Nat.le_refl _)⟩
 case round =>
  obtain ⟨k,q,n,c,hkL,rfl,rfl,HN,hnk,HRW,SQ,sW,VY⟩:=hrel
  by_cases hlt:k < L
  ·obtain ⟨g1,cs1,rfl,hle1,SS,hh1⟩:=oq jP.out (by omega)
   obtain ⟨y,hy⟩:∃ y,a.flatB[k]?=some y:=⟨_,List.getElem?_eq_getElem (by rw [← HL.out]; exact hlt)⟩
   have VZ:=Go.Proofs.YtmpmfamiegpmgaaGreatDoor.hlt hh1;obtain ⟨y0,y1,y2,y3,y4,y5⟩:=(nT jP.out k y hy).step VZ sW.out;rw [Nat.zero_add] at y0 y1 y2 y3 y4 y5;have YW:=hid (List.mem_of_getElem? hy);have yG:Hid ((a.flatB.take (k+1)).filter (fun y=>lI kn kl y.h.k)=(a.flatB.take k).filter (fun y=>lI kn kl y.h.k)++[y].filter (fun y=>lI kn kl y.h.k)):=hid (by rw [List.take_add_one,hy]; simp [List.filter_append]);have HTN:Hid (aS (a.flatB.take (k+1))=aS (a.flatB.take k)++y.h.ns):=hid (by rw [List.take_add_one,hy,dG]; simp [aS]);obtain ⟨WX,Ec⟩:∃ WX,WX=wr.alloc (.cells #[.int .i64 y.h.k,.int .i64 y.h.m,.int .i64 y.h.f,.int .i64 y.h.t,.slice y.h.np y.h.nn y.h.nc,.slice y.h.kp y.h.kn y.h.kc] 26):=⟨_,rfl⟩
   have hbx:Below wr.heap.size wr WX:=by rw [Ec]; exact (Below.refl _ _).alloc (Nat.le_refl _) _
   have hxz:wr.heap.size < WX.heap.size:=by rw [Ec]; simp
   have hxc:bP WX wr.heap.size 0 y.h:=by rw [Ec]; exact gX wr y.h 26
   have r1:(0:Int)≤(k:Int):=by omega
   have r2:(k:Int) < (L:Int):=by omega
   have V3:=hid (fun w' (hw:Below WX.heap.size WX w')=>hxc.step hxz hw);have QO:=hid Ec;have kN:=hid hbx;have V4:=hid hxz;clear hy hh1 VZ hbx hxz hxc Ec SS
   go_upto_region 9 with (fail)
   rw [← QO.out];clear y0 y1 y2 y3 y4 y5
   go_wp2_with fail
   obtain ⟨xb,hxb⟩:∃ x,x=wr.heap.size:=⟨_,rfl⟩
   rw [← hxb] at V3 V4;have HXB:=hid hxb;rw [← hxb];have YX:Hid (Below w2.heap.size w2 WX):=hid (mg.out.trans ((sW.out.trans (kN.out.mono sW.out.size)).mono mg.out.size));have V5:=Xb.out WX YX.out;have YY:=hid V5;obtain ⟨K,hK⟩:∃ K,K=y.h.k:=⟨_,rfl⟩
   have hxk:WX.cell? ⟨xb,0,none⟩=some (.int .i64 K):=by
    rw [hK]; exact (V3.out WX (Below.refl _ _)).box.1
   have HK:=hid hK;have DV:=hid (row_step HRW.out kN.out);have Uc:=hid (SQ.out.same (kN.out.block g (by obtain ⟨cs,h⟩:=SQ.out.1; exact Go.Proofs.YtmpmfamiegpmgaaGreatDoor.hlt h)));have OT:=hid (sW.out.trans (kN.out.mono sW.out.size));have Xr:Hid (w6.heap.size≤WX.heap.size):=hid (Nat.le_trans VY.out kN.out.size);have VG:Hid (∀ g',(Value.slice q n c).ownBlock=some g'→w6.heap.size≤g'∧g' < xb):=hid fun g' h=>by rw [HXB.out]; exact qK HRW.out g' h
   clear HRW SQ sW VY QO HXB kN;obtain ⟨k0,hk0⟩:∃ k0,k0=k:=⟨_,rfl⟩
   subst hk0;clear V5 hxb hK
   go_loopw [14,59] (fun v14 i wr=>∃ (j:Nat),j≤kn∧i=.int .i64 j∧v14=.bool (((kn:Int) == 0) || (kl.take j).contains K)∧wr=WX) (fun _ i _=>kn - (intOf i).toNat)
   case atStart=>exact ⟨0,by omega,rfl,by simp,rfl⟩
   case round =>
    obtain ⟨j,hj,rfl,rfl,rfl⟩:=hrel
    by_cases hjn:j < kn
    ·obtain ⟨bk,offk,rfl,hkc,hbk,V6⟩:=YY.out.2.resolve_left (by omega)
     have hjl:j < kl.length:=by rw [← HKL.out]; exact hjn
     have d0:=V6 j hjl;have Ud:=hid (wI kl j hjl K);have s1:(0:Int)≤(j:Int):=by omega
     have s2:(j:Int) < (kn:Int):=by omega
     clear V6;generalize kl[j]=z at *;obtain ⟨sb,hsb⟩:∃ sb,sb=(((kn:Int) == 0) || (kl.take j).contains K):=⟨_,rfl⟩
     rw [← hsb];have Gp:=hid hsb;clear hsb
     cases sb
     ·by_cases hz:z=K
      ·subst hz
       have HV:Hid ((((kn:Int) == 0) || (kl.take (j+1)).contains z)=true):=hid (by rw [Ud.out]; simp);clear Gp Ud
       go_wp2_with fail
       go_roundw
       case rel=>exact ⟨j+1,by omega,by go_num,by rw [HV.out],by first | rfl | trivial⟩
       case measure=>simp [intOf]; omega
      ·have hzb:(z == K)=false:=by rw [beq_eq_false_iff_ne]; exact hz
       have hzc:(K == z)=false:=by rw [beq_eq_false_iff_ne]; exact fun e=>hz e.symm
       have HV:Hid ((((kn:Int) == 0) || (kl.take (j+1)).contains K)=false):=hid (by rw [Ud.out,← Bool.or_assoc,← Gp.out,hzc]; rfl);clear Gp Ud hzc
       go_wp2_with fail
       go_roundw
       case rel=>exact ⟨j+1,by omega,by go_num,by rw [HV.out],by first | rfl | trivial⟩
       case measure=>simp [intOf]; omega
     ·have HV:Hid ((((kn:Int) == 0) || (kl.take (j+1)).contains K)=true):=hid (by rw [Ud.out,← Bool.or_assoc,← Gp.out]; rfl)
      clear Gp Ud
      go_wp2_with fail
      go_roundw
      case rel=>exact ⟨j+1,by omega,by go_num,by rw [HV.out],by first | rfl | trivial⟩
      case measure=>simp [intOf]; omega
    ·have hjk:j=kn:=by omega
     obtain ⟨sb,hsb⟩:∃ sb,sb=(((kn:Int) == 0) || (kl.take j).contains K):=⟨_,rfl⟩
     rw [← hsb];have yK:Hid (lI kn kl K=sb):=hid (by
      rw [hsb,hjk,HKL.out,List.take_length];unfold lI
      congr 1
      by_cases h0:kl.length=0
      ·simp [h0]
      ·have:((kl.length:Int) == 0)=false:=by rw [beq_eq_false_iff_ne]; omega
       rw [this]; simp [h0])
     have s2:¬ (j:Int) < (kn:Int):=by omega
     clear hsb hjk hxk
     go_upto_if 71 with (fail)
     clear s2
     go_cut [10,50] from 50 to 102 (fun v10 v50 wx=>v50=.int .i64 k0∧∃ (q:Option Addr) (n c:Nat),v10=.slice q n c∧Hid (n=((a.flatB.take (k0+1)).filter fun y=>lI kn kl y.h.k).length)∧n≤k0+1∧Hid (wx.ownsRow w6.heap.size 26 6 (.slice q n c) n (aT ((a.flatB.take (k0+1)).filter fun y=>lI kn kl y.h.k)))∧Hid (jI wx g m (kR m dv (aS (a.flatB.take k0))))∧Hid (Below w5.heap.size w5 wx)∧Hid (w6.heap.size≤wx.heap.size)∧Hid (bP wx xb 0 y.h∧xb < wx.heap.size))
     case first =>
      cases sb
      ·have qA:Hid ([y].filter (fun y=>lI kn kl y.h.k)=[]):=hid (by
        have h1:=yK.out;rw [HK.out] at h1
        simp [List.filter_cons,h1])
       go_wp2_with fail
       go_meet
       case rel=>exact ⟨rfl,q,n,c,rfl,hid (by rw [yG.out,qA.out,List.append_nil]; exact HN.out),by omega,hid (by rw [yG.out,qA.out,List.append_nil]; exact DV.out),Uc,OT,Xr,hid ⟨V3.out _ (Below.refl _ _),V4.out⟩⟩
      ·have qA:Hid ([y].filter (fun y=>lI kn kl y.h.k)=[y]):=hid (by
        have h1:=yK.out;rw [HK.out] at h1
        simp [List.filter_cons,h1])
       obtain ⟨x0,x1,x2,x3,x4,x5⟩:=(V3.out wr (Below.refl _ _)).box;have hbn:Below wr.heap.size wr (wr.alloc (.cells #[.int .i64 y.h.k,.int .i64 y.h.m,.int .i64 y.h.f,.int .i64 y.h.t,.slice y.h.np y.h.nn y.h.nc,.slice y.h.kp y.h.kn y.h.kc] 26)):=(Below.refl _ _).alloc (Nat.le_refl _) _;have sZ:=hid (row_step DV.out hbn);have SI:Hid (∀ jj u,(gB y.h)[jj]?=some u→(wr.alloc (.cells #[.int .i64 y.h.k,.int .i64 y.h.m,.int .i64 y.h.f,.int .i64 y.h.t,.slice y.h.np y.h.nn y.h.nc,.slice y.h.kp y.h.kn y.h.kc] 26)).cell? ((⟨wr.heap.size,0,none⟩:Addr).add jj)=some u):=hid (World.news_of_block (heap_alloc_new wr (.cells #[.int .i64 y.h.k,.int .i64 y.h.m,.int .i64 y.h.f,.int .i64 y.h.t,.slice y.h.np y.h.nn y.h.nc,.slice y.h.kp y.h.kn y.h.kc] 26)));have SK:=hid (OT.out.trans (hbn.mono OT.out.size));have KZ:=hid hbn;have hwz:w6.heap.size≤(wr.alloc (.cells #[.int .i64 y.h.k,.int .i64 y.h.m,.int .i64 y.h.f,.int .i64 y.h.t,.slice y.h.np y.h.nn y.h.nc,.slice y.h.kp y.h.kn y.h.kc] 26)).heap.size:=Nat.le_trans Xr.out hbn.size;clear hbn
       go_wp2_with (at_builtin; refine wpList_append_lies _ rfl _ _ 24 rfl w6.heap.size 26 i26 _ 6 80 underlying24 yI hx0 hx1 hx2 rfl (by decide) _ n _ rfl sZ.out ⟨wr.heap.size,0,none⟩ 1 1 (gB y.h) rfl rfl SI.out (CU _) (by omega) (by unfold maxLen; omega) (by omega) hwz (wr.heap.size+1) (by simp) ?_; intro gg cap w7 hown hgrow hat VQ; have HOWN:=hid hown; have AA:=hid hgrow; clear hown hgrow hat)
       have HG7:Hid (w7.heap[g]?=wr.heap[g]?):=hid (by
        obtain ⟨cs,hc⟩:=Uc.out.1;have hgl:=Go.Proofs.YtmpmfamiegpmgaaGreatDoor.hlt hc;exact (AA.out.block g (Nat.lt_of_lt_of_le hgl KZ.out.size) (fun e=>by have:=(VG.out g e.symm).1; have:=Xq.out; omega)).trans (KZ.out.block g hgl))
       have HX7:Hid (w7.heap[xb]?=wr.heap[xb]?):=hid
        ((AA.out.block xb (Nat.lt_of_lt_of_le V4.out KZ.out.size) (fun e=>by have:=(VG.out xb e.symm).2; omega)).trans (KZ.out.block xb V4.out))
       have TZ:Hid (wr.heap.size≤w7.heap.size):=hid (Nat.le_trans KZ.out.size AA.out.size)
       go_meet
       case rel=>exact ⟨rfl,_,_,_,rfl,hid (by rw [yG.out,qA.out,List.length_append,← HN.out]; rfl),by omega,hid (by rw [yG.out,qA.out,wL]; exact HOWN.out),hid (Uc.out.same HG7.out),hid (SK.out.grown AA.out (by have:=YV.out; have:=Xq.out; omega) (fun g' hg'=>by have:=(qK sZ.out g' hg').1; have:=YV.out; have:=Xq.out; omega)),hid (Nat.le_trans Xr.out TZ.out),hid ⟨(V3.out wr (Below.refl _ _)).same HX7.out,Nat.lt_of_lt_of_le V4.out TZ.out⟩⟩
     case rest =>
      clear HN DV Uc OT Xr VG yG yK;obtain ⟨rfl,q2,n2,c2,rfl,HN,YZ,HRW,SQ,sW,VY,HXX⟩:=hcut;have Gj:Hid (∀ w',Below w5.heap.size w5 w'→Below w2.heap.size w2 w'):=hid fun w' hw=>mg.out.trans (hw.mono mg.out.size)
      have Y0:Hid (∀ w',Below w5.heap.size w5 w'→InV mkI w' y.h.np y.h.nn y.h.nc y.h.ns):=hid fun w' hw=>((aO _ _).1 (mM a (JR.out w' (Gj.out w' hw)) y YW.out)).1
      have Af:Hid (y.h.nn≤1000000):=hid (by
       have h1:=(Y0.out wc sW.out).1;have h2:=(vU a rF.out.few y YW.out).1;have h3:=((aO _ _).1 (mM a (JR.out wc (Gj.out wc sW.out)) y YW.out)).1.1
       cases hy:y with
       | mk h ks=>rw [hy] at h2 h3; simp only [Br.Few,Br.h] at h2 h3 ⊢; omega)
      obtain ⟨nn,hnn⟩:∃ x,x=y.h.nn:=⟨_,rfl⟩
      obtain ⟨np,DJ⟩:∃ x,x=y.h.np:=⟨_,rfl⟩
      obtain ⟨nc,hnc⟩:∃ x,x=y.h.nc:=⟨_,rfl⟩
      obtain ⟨ns,hns⟩:∃ x,x=y.h.ns:=⟨_,rfl⟩
      have x4:=HXX.out.1.box.2.2.2.2.1;rw [← hnn,← DJ,← hnc] at x4;rw [← hnn,← DJ,← hnc,← hns] at Y0;rw [← hnn] at Af;rw [← hns] at HTN;clear hnn DJ hnc hns;have hnb:=Af.out
      go_wp2_with fail
      clear x4
      go_loopw [79] (fun i wr=>∃ (j:Nat),j≤nn∧i=.int .i64 j∧Hid (jI wr g m (kR m dv (aS (a.flatB.take k0)++ns.take j)))∧Hid (∀ b',b'≠g→wr.heap[b']?=wc.heap[b']?)∧Hid (wr.heap.size=wc.heap.size)∧Hid (Below w5.heap.size w5 wr)) (fun i _=>nn - (intOf i).toNat)
      case atStart=>exact ⟨0,by omega,rfl,hid (by simpa using SQ.out),hid (fun _ _=>rfl),hid rfl,sW⟩
      case round =>
       obtain ⟨j,hj,rfl,Ed,QJ,tX,Ee⟩:=hrel;have hni:=Y0.out wr Ee.out
       by_cases hjn:j < nn
       ·obtain ⟨bn,offn,rfl,hcn,hbn,nN⟩:=hni.2.resolve_left (by omega)
        have hjl:j < ns.length:=by rw [← hni.1]; exact hjn
        have d0:=nN j hjl;have KH:Hid (aS (a.flatB.take k0)++ns.take (j+1)=(aS (a.flatB.take k0)++ns.take j)++[ns[j]]):=hid (by rw [List.take_succ_eq_append_getElem hjl,List.append_assoc]);have s1:(0:Int)≤(j:Int):=by omega
        have s2:(j:Int) < (nn:Int):=by omega
        have Y1:=HDV.out wr (Gj.out wr Ee.out);clear nN hni;generalize ns[j]=x at *
        by_cases hx0:0≤x
        ·by_cases hxm:x < (m:Int)
         ·obtain ⟨o,rfl⟩:∃ o:Nat,x=o:=⟨x.toNat,by omega⟩
          have Y2:o < m:=by omega
          obtain ⟨ob,off,rfl,hoc,wG,hod⟩:=Y1.resolve_left (by omega);have q2:=hod o Y2;clear hod
          cases hd:dv o
          ·rw [hd] at q2
           have SV:Hid (aX m dv (o:Int)=false):=hid (by simp [aX,hd])
           go_wp2_with fail
           go_roundw
           case rel=>exact ⟨j+1,by omega,by go_num,hid (by rw [KH.out]; exact Ed.out.ext fun i _=>by rw [oU,SV.out]; simp),QJ,tX,Ee⟩
           case measure=>simp [intOf]; omega
          ·rw [hd] at q2
           have SV:Hid (aX m dv (o:Int)=true):=hid (by simp [aX,hd]; omega);have c0:=Ed.out.2 o Y2;have f0:=Ed.out.froz o;have HM4:=hid (Ed.out.set Y2);have HB4':=hid (Ee.out.setCell (p:=⟨g,o,none⟩) (by rw [YV.out]; exact Nat.le_refl _) (.bool true));have Ve:Hid (∀ b',b'≠g→(wr.setCell ⟨g,o,none⟩ (.bool true)).heap[b']?=wc.heap[b']?):=hid fun b' hb'=>(Below.heap_setCell _ ⟨g,o,none⟩ _ b' hb').trans (QJ.out b' hb')
           have X7:Hid ((wr.setCell ⟨g,o,none⟩ (.bool true)).heap.size=wc.heap.size):=hid (by rw [← tX.out]; simp)
           go_wp2_with fail
           go_roundw
           case rel=>exact ⟨j+1,by omega,by go_num,hid (by rw [KH.out]; exact HM4.out.ext fun i _=>by rw [oU,SV.out,Bool.and_true]; congr 1; by_cases e:i=o <;> simp [e]; omega),Ve,X7,HB4'⟩
           case measure=>simp [intOf]; omega
         ·have hxm':¬ x < (m:Int):=hxm
          have hxd:decide (x < (m:Int))=false:=by simpa using hxm
          have SV:Hid (aX m dv x=false):=hid (by unfold aX; rw [hxd]; simp)
          go_wp2_with fail
          go_roundw
          case rel=>exact ⟨j+1,by omega,by go_num,hid (by rw [KH.out]; exact Ed.out.ext fun i _=>by rw [oU,SV.out]; simp),QJ,tX,Ee⟩
          case measure=>simp [intOf]; omega
        ·have hxd:decide (0≤x)=false:=by simpa using hx0
         have SV:Hid (aX m dv x=false):=hid (by unfold aX; rw [hxd]; simp)
         go_wp2_with fail
         go_roundw
         case rel=>exact ⟨j+1,by omega,by go_num,hid (by rw [KH.out]; exact Ed.out.ext fun i _=>by rw [oU,SV.out]; simp),QJ,tX,Ee⟩
         case measure=>simp [intOf]; omega
       ·have hjk:j=nn:=by omega
        have Hl:Hid (aS (a.flatB.take k0)++ns.take j=aS (a.flatB.take (k0+1))):=hid (by rw [hjk,hni.1,List.take_length,HTN.out]);have s2:¬ (j:Int) < (nn:Int):=by omega
        have V7:Hid (wr.ownsRow w6.heap.size 26 6 (.slice q2 n2 c2) n2 (aT ((a.flatB.take (k0+1)).filter fun y=>lI kn kl y.h.k))):=hid (uf HRW.out fun g' hg'=>QJ.out g' fun e=>by
         have:=(qK HRW.out g' hg').1
         have:=Xq.out
         omega)
        clear hjk hni
        go_wp2_with fail
        go_roundw
        case rel=>exact ⟨k0+1,_,_,_,by omega,by go_num,rfl,HN,YZ,V7,hid (by rw [← Hl.out]; exact Ed.out),Ee,hid (by rw [tX.out]; exact VY.out)⟩
        case measure=>simp [intOf]; omega
  have OU:k=L:=by omega
  have KJ:Hid (n=(a.flatB.filter fun y=>lI kn kl y.h.k).length):=hid (by rw [HN.out,OU,HL.out,List.take_length]);have HRE:Hid (wr.ownsRow w6.heap.size 26 6 (.slice q n c) n (aT (a.flatB.filter fun y=>lI kn kl y.h.k))):=hid (by have:=HRW.out; rw [OU,HL.out,List.take_length] at this; exact this);have KO:Hid (jI wr g m (kR m dv (aS a.flatB))):=hid (by have:=SQ.out; rw [OU,HL.out,List.take_length] at this; exact this);have aaT:n≤200:=by omega
  have r2:¬ (k:Int) < (L:Int):=by omega
  have HB2:Hid (∀ w',Below wr.heap.size wr w'→Below w2.heap.size w2 w'):=hid fun w' hw=>mg.out.trans ((sW.out.trans (hw.mono sW.out.size)).mono mg.out.size)
  obtain ⟨wm,hwm⟩:∃ w,w=wr:=⟨_,rfl⟩
  rw [← hwm] at HRE KO HB2;have HWM:=hid hwm;clear HN OU HRW SQ sW VY hnk hkL;obtain ⟨i3,hi3,hu0,hu1,hu2⟩:∃ i3,prog.info? 3=some i3∧i3.zero=some (.int .i64 0)∧i3.size=1∧i3.bytes=8:=by
   refine ⟨_,rfl,?_,?_,?_⟩ <;> kernel_rfl
  go_wp2_with fail
  rw [← HWM.out]
  go_loopw [19,105] (fun v19 i wr=>∃ (j:Nat) (q9:Option Addr) (n9 c9:Nat),j≤m∧i=.int .i64 j∧v19=.slice q9 n9 c9∧n9≤j∧Hid (n9=((List.range j).filter (kR m dv (aS a.flatB))).length)∧Hid (wr.ownsRow wm.heap.size 3 1 (.slice q9 n9 c9) n9 ((((List.range j).filter (kR m dv (aS a.flatB))).map fun j:Nat=>(j:Int)).map mkI))∧Hid (Below wm.heap.size wm wr)) (fun _ i _=>m - (intOf i).toNat)
  case atStart=>exact ⟨0,none,0,0,by omega,rfl,rfl,by omega,hid (by simp),hid ⟨by simp,.inl ⟨rfl,rfl⟩⟩,hid (Below.refl _ _)⟩
  case round =>
   obtain ⟨j,q9,n9,c9,hj,rfl,rfl,Xg,Xt,zW,KE⟩:=hrel
   by_cases hjm:j < m
   ·have hgm:g < wm.heap.size:=by obtain ⟨cs,h⟩:=KO.out.1; exact Go.Proofs.YtmpmfamiegpmgaaGreatDoor.hlt h
    have d0:wr.cell? ⟨g,j,none⟩=some (.bool (kR m dv (aS a.flatB) j)):=(KE.out.cell (p:=⟨g,j,none⟩) hgm).trans (KO.out.2 j hjm);have s1:(0:Int)≤(j:Int):=by omega
    have s2:(j:Int) < (m:Int):=by omega
    have Xu:Hid ((List.range (j+1)).filter (kR m dv (aS a.flatB))=(List.range j).filter (kR m dv (aS a.flatB))++[j].filter (kR m dv (aS a.flatB))):=hid (by rw [List.range_succ,List.filter_append]);obtain ⟨sb,hsb⟩:∃ sb,sb=kR m dv (aS a.flatB) j:=⟨_,rfl⟩
    rw [← hsb] at d0;have Gp:=hid hsb;clear hsb hgm
    cases sb
    ·have qA:Hid ([j].filter (kR m dv (aS a.flatB))=[]):=hid (by simp [List.filter_cons,← Gp.out])
     go_wp2_with fail
     go_roundw
     case rel=>exact ⟨j+1,_,_,_,by omega,by go_num,rfl,by omega,hid (by rw [Xu.out,qA.out,List.append_nil]; exact Xt.out),hid (by rw [Xu.out,qA.out,List.append_nil]; exact zW.out),KE⟩
     case measure=>simp [intOf]; omega
    ·have qA:Hid ([j].filter (kR m dv (aS a.flatB))=[j]):=hid (by simp [List.filter_cons,← Gp.out])
     have hbn:Below wr.heap.size wr (wr.alloc (.cells #[.int .i64 (j:Int)] 3)):=(Below.refl _ _).alloc (Nat.le_refl _) _;have sZ:=hid (row_step zW.out hbn);have SK:=hid (KE.out.trans (hbn.mono KE.out.size));have hwz:=SK.out.size;clear hbn
     go_wp2_with (at_builtin; refine wpList_append_lies _ rfl _ _ 23 rfl wm.heap.size 3 i3 _ 1 8 underlying23 hi3 hu0 hu1 hu2 rfl (by decide) _ n9 _ rfl sZ.out ⟨wr.heap.size,0,none⟩ 1 1 [.int .i64 (j:Int)] rfl rfl kX (by simp [Value.oneCell']) (by omega) (by unfold maxLen; omega) (by omega) hwz (wr.heap.size+1) (by simp) ?_; intro gg cap w7 hown hgrow hat VQ; have HOWN:=hid hown; have AA:=hid hgrow; clear hown hgrow hat)
     have VM:=hid (SK.out.grown AA.out hwz (fun g' hg'=>(qK sZ.out g' hg').1))
     go_roundw
     case rel=>exact ⟨j+1,_,_,_,by omega,by go_num,rfl,by omega,hid (by rw [Xu.out,qA.out,List.length_append,← Xt.out]; rfl),hid (by rw [Xu.out,qA.out,List.map_append,List.map_append]; exact HOWN.out),VM⟩
     case measure=>simp [intOf]; omega
   have SX:j=m:=by omega
   have Y3:Hid (n9=((List.range m).filter (kR m dv (aS a.flatB))).length):=hid (by rw [show List.range m=List.range j by rw [SX]]; exact Xt.out);have V8:Hid (wr.ownsRow wm.heap.size 3 1 (.slice q9 n9 c9) n9 ((((List.range m).filter (kR m dv (aS a.flatB))).map fun j:Nat=>(j:Int)).map mkI)):=hid (by rw [show List.range m=List.range j by rw [SX]]; exact zW.out);have s2:¬ (j:Int) < (m:Int):=by omega
   have hbq:=HB2.out wr KE.out;obtain ⟨x0,x1,x2,x3,x4,x5⟩:=(KX.out wr hbq).box;have QW:Hid (Calls prog 24 #[.agg #[.int .i64 a.h.k,.int .i64 a.h.m,.int .i64 a.h.f,.int .i64 a.h.t,.slice a.h.np a.h.nn a.h.nc,.slice a.h.kp a.h.kn a.h.kc],.slice kp kn kc] wr (Gw wr a (lI kn kl))):=hid (PU a wr (JR.out wr hbq) rF.out.few (by have:=rF.out.len; omega) kp kn kc (lI kn kl) (fun h0 v=>by simp [lI,h0]) fun hne v W' hW'=>by
    refine (F7 kl v kp kn kc W' ((Xb.out wr hbq).step hW') (by have:=Xl.out; omega)).mono ?_
    rintro x w' ⟨rfl,rfl⟩;refine ⟨?_,0,rfl⟩
    unfold lI
    simp [hne])
   have HBQ:=hid hbq;clear hbq SX Xt zW
   go_wp2_with fail
   clear x0 x1 x2 x3 x4 x5;refine QW.out.mono ?_
   rintro e wq ⟨qq,mq,cq,ys,rfl,hrq,hlq,hyq,hnq,hbq⟩;have Y4:=hid hnq;have hlen:=congrArg List.length hnq;rw [List.length_map,List.length_map] at hlen;obtain rfl:mq=n:=by rw [hlq,hlen]; exact KJ.out.symm
   have OV:=hid (HBQ.out.trans (hbq.mono HBQ.out.size));have Y5:Hid (Below wm.heap.size wm wq):=hid (KE.out.trans (hbq.mono KE.out.size));have HRQ:=hid hrq;have HYQ:Hid (∀ y ∈ ys,y.Lies wq):=hid fun y hy=>hyq y hy wq ⟨Nat.le_refl _,fun _ _ _=>rfl⟩
   have QU:=hid hlq;have V9:=hid (row_step HRE.out Y5.out);have Y6:=hid (row_step V8.out hbq);clear hrq hlq hyq hnq hbq hlen QW V8;have HZS:Hid (∀ k,k < mq→∃ y z,ys[k]?=some y∧(a.flatB.filter fun y=>lI kn kl y.h.k)[k]?=some z∧y.Lies wq∧y.Few∧y.Alk true z∧z ∈ a.flatB):=hid fun k hk=>by
    have h1:k < ys.length:=by rw [← QU.out]; exact hk
    have h2:k < (a.flatB.filter fun y=>lI kn kl y.h.k).length:=by rw [← KJ.out]; exact hk
    have he:=List.getElem_of_eq Y4.out (i:=k) (by simpa using h1);rw [List.getElem_map,List.getElem_map] at he;have hzm:(a.flatB.filter fun y=>lI kn kl y.h.k)[k] ∈ a.flatB:=(List.mem_filter.1 (List.getElem_mem h2)).1;exact ⟨_,_,List.getElem?_eq_getElem h1,List.getElem?_eq_getElem h2,HYQ.out _ (List.getElem_mem h1),Ll _ _ he.symm (vU a rF.out.few _ hzm).1,N7 _ _ he,hzm⟩
   go_wp2_with fail
   go_loopw [126] (fun i wr=>∃ k:Nat,k≤mq∧i=.int .i64 k∧Hid (Below wq.heap.size wq wr)) (fun i _=>mq - (intOf i).toNat)
   case atStart=>exact ⟨0,by omega,rfl,hid (Below.refl _ _)⟩
   case round =>
    obtain ⟨k9,hk9,rfl,DC⟩:=hrel
    by_cases Y7:k9 < mq
    ·obtain ⟨g1,cs1,rfl,hle1,SS,hh1⟩:=oq HRQ.out (by omega)
     obtain ⟨g2,cs2,rfl,hle2,Y8,hh2⟩:=oq V9.out (by omega);obtain ⟨y,z,hy,hz,hyl,hyf,hya,hzm⟩:=HZS.out k9 Y7;have hb1:=Go.Proofs.YtmpmfamiegpmgaaGreatDoor.hlt hh1;have hb2:=Go.Proofs.YtmpmfamiegpmgaaGreatDoor.hlt hh2;obtain ⟨c0,c1,c2,c3,c4,c5⟩:=(nT HRQ.out k9 y hy).step hb1 DC.out;obtain ⟨e0,e1,e2,e3,e4,e5⟩:=(nT V9.out k9 z hz).step hb2 DC.out;rw [Nat.zero_add] at c0 c1 c2 c3 c4 c5 e0 e1 e2 e3 e4 e5;have Y9:Hid (∀ W',Below wr.heap.size wr W'→Calls prog 19 #[y.h.val,z.h.val,.bool true] W' fun e w'=>e=.returned (.bool true)∧Below W'.heap.size W' w'):=hid fun W' hW=>BN true y z W' ((hyl.step _ DC.out).step _ hW) (mM a (JR.out W' (OV.out.trans ((DC.out.trans (hW.mono DC.out.size)).mono OV.out.size))) z hzm) hyf hya
     simp only [Hd.val] at Y9;have s1:(0:Int)≤(k9:Int):=by omega
     have s2':(k9:Int) < (mq:Int):=by omega
     clear hy hz hyl hyf hya hzm hh1 hh2 hb1 hb2 SS Y8
     go_upto_region 37 with (fail)
     go_still_tail 8,(by kernel_rfl)
     change wpList _ _ _ _ _ wr.drew
     obtain ⟨wd,hwd⟩:∃ wd,wd=wr.drew:=⟨_,rfl⟩
     have Za:Hid (Below wr.heap.size wr wd):=hid (by rw [hwd]; exact (Below.refl _ _).drew);rw [← hwd];have HCD:=hid (Y9.out wd Za.out);clear hwd Y9
     go_wp2_with fail
     refine HCD.out.mono ?_
     rintro x w3 ⟨rfl,hb3⟩;have Zb:Hid (Below wq.heap.size wq w3):=hid (DC.out.trans ((Za.out.trans (hb3.mono Za.out.size)).mono DC.out.size));clear hb3 HCD
     go_wp2_with fail
     go_roundw
     case rel=>exact ⟨k9+1,by omega,by go_num,Zb⟩
     case measure=>simp [intOf]; omega
    have hlt9':¬ (k9:Int) < (mq:Int):=by omega
    have SY:=hid (OV.out.trans (DC.out.mono OV.out.size));obtain ⟨x0,x1,x2,x3,x4,x5⟩:=(KX.out wr SY.out).box;obtain ⟨u0,u1,u2,u3,u4,u5⟩:=(OQ.out wr SY.out).box;obtain ⟨R,hR⟩:∃ R,R=a.alb b:=⟨_,rfl⟩
    obtain ⟨D9,Xe⟩:∃ D,D=compact (((aS a.flatB).filter (aX m dv)).mergeSort fun x y=>decide (x≤y)):=⟨_,rfl⟩
    have HD9:Hid (D9=((List.range m).filter (kR m dv (aS a.flatB))).map fun j:Nat=>(j:Int)):=hid (by
     rw [Xe];refine Ho _ m _ (fun x hx=>?_) fun j hj=>by unfold kR; simp
     obtain ⟨_,h2⟩:=List.mem_filter.1 hx;unfold aX at h2;simp only [Bool.and_eq_true,decide_eq_true_eq] at h2;exact ⟨x.toNat,by omega,by omega⟩)
    have H25:Hid (∀ W',Below w2.heap.size w2 W'→Calls prog 25 #[.agg #[.int .i64 a.h.k,.int .i64 a.h.m,.int .i64 a.h.f,.int .i64 a.h.t,.slice a.h.np a.h.nn a.h.nc,.slice a.h.kp a.h.kn a.h.kc]] W' fun e w'=>e=.returned (.int .i64 L)∧Below W'.heap.size W' w'):=hid fun W' hW=>by
     have:=size_any a W' (JR.out W' hW) (by have:=rF.out.len; omega)
     rw [← HL.out] at this;exact this
    have H26:Hid (∀ W',Below w2.heap.size w2 W'→Calls prog 26 #[.agg #[.int .i64 a.h.k,.int .i64 a.h.m,.int .i64 a.h.f,.int .i64 a.h.t,.slice a.h.np a.h.nn a.h.nc,.slice a.h.kp a.h.kn a.h.kc],.agg #[.int .i64 b.h.k,.int .i64 b.h.m,.int .i64 b.h.f,.int .i64 b.h.t,.slice b.h.np b.h.nn b.h.nc,.slice b.h.kp b.h.kn b.h.kc]] W' fun e w'=>e=.returned (.bool R)∧Below W'.heap.size W' w'):=hid fun W' hW=>by
     rw [hR]; exact sO a b W' (JR.out W' hW) (SB.out W' hW) rF.out.few (by have:=rF.out.len; omega)
    have H19:Hid (∀ W',Below w2.heap.size w2 W'→Calls prog 19 #[.agg #[.int .i64 a.h.k,.int .i64 a.h.m,.int .i64 a.h.f,.int .i64 a.h.t,.slice a.h.np a.h.nn a.h.nc,.slice a.h.kp a.h.kn a.h.kc],.agg #[.int .i64 b.h.k,.int .i64 b.h.m,.int .i64 b.h.f,.int .i64 b.h.t,.slice b.h.np b.h.nn b.h.nc,.slice b.h.kp b.h.kn b.h.kc],.bool false] W' fun e w'=>e=.returned (.bool R)∧Below W'.heap.size W' w'):=hid fun W' hW=>by
     rw [hR]; exact zl a b W' (JR.out W' hW) (SB.out W' hW) rF.out.few
    have Zc:Hid (∀ W',Below w2.heap.size w2 W'→Calls prog 26 #[.agg #[.int .i64 a.h.k,.int .i64 a.h.m,.int .i64 a.h.f,.int .i64 a.h.t,.slice a.h.np a.h.nn a.h.nc,.slice a.h.kp a.h.kn a.h.kc],.agg #[.int .i64 a.h.k,.int .i64 a.h.m,.int .i64 a.h.f,.int .i64 a.h.t,.slice a.h.np a.h.nn a.h.nc,.slice a.h.kp a.h.kn a.h.kc]] W' fun e w'=>e=.returned (.bool true)∧Below W'.heap.size W' w'):=hid fun W' hW=>by
     have:=sO a a W' (JR.out W' hW) (JR.out W' hW) rF.out.few (by have:=rF.out.len; omega)
     rw [MB] at this;exact this
    have H28:Hid (∀ W',Below w2.heap.size w2 W'→Calls prog 28 #[.agg #[.int .i64 a.h.k,.int .i64 a.h.m,.int .i64 a.h.f,.int .i64 a.h.t,.slice a.h.np a.h.nn a.h.nc,.slice a.h.kp a.h.kn a.h.kc],.slice op m oc] W' fun e w'=>∃ p n c,e=.returned (.slice p n c)∧InV mkI w' p n c D9∧n≤500∧Below W'.heap.size W' w'):=hid fun W' hW=>by
     rw [Xe]; exact wP a m oc op dv W' (JR.out W' hW) rF.out (HDV.out W' hW) hm UZ.out
    have H27:Hid (∀ W' p n c,Below wr.heap.size wr W'→InV mkI W' p n c D9→n≤500→Calls prog 27 #[.slice p n c,.slice q9 n9 c9] W' fun e w'=>e=.returned (.bool true)∧Below W'.heap.size W' w'):=hid fun W' p n c hW hi XB=>by
     have h9:=Gx (row_step (row_step Y6.out DC.out) hW) (by rw [List.length_map]; exact Y3.out)
     have:=uy D9 _ p q9 n c n9 c9 W' hi h9 (by omega) (by omega)
     rw [HD9.out,beq_self_eq_true] at this;exact this
    have H_v0:Hid (Below w2.heap.size w2 wr.drew):=hid (SY.out.trans ((Below.refl _ _).drew));have We:Hid (Below wr.heap.size wr wr.drew):=hid (Below.refl _ _).drew;clear hR Xe
    go_upto_region 40 with (fail)
    go_region_held3 (fun w'=>w'.cell? ⟨W.heap.size,0,none⟩=some (.int .i64 a.h.k)∧w'.cell? ⟨W.heap.size,1,none⟩=some (.int .i64 a.h.m)∧w'.cell? ⟨W.heap.size,2,none⟩=some (.int .i64 a.h.f)∧w'.cell? ⟨W.heap.size,3,none⟩=some (.int .i64 a.h.t)∧w'.cell? ⟨W.heap.size,4,none⟩=some (.slice a.h.np a.h.nn a.h.nc)∧w'.cell? ⟨W.heap.size,5,none⟩=some (.slice a.h.kp a.h.kn a.h.kc)∧w'.cell? ⟨W.heap.size+1,0,none⟩=some (.int .i64 b.h.k)∧w'.cell? ⟨W.heap.size+1,1,none⟩=some (.int .i64 b.h.m)∧w'.cell? ⟨W.heap.size+1,2,none⟩=some (.int .i64 b.h.f)∧w'.cell? ⟨W.heap.size+1,3,none⟩=some (.int .i64 b.h.t)∧w'.cell? ⟨W.heap.size+1,4,none⟩=some (.slice b.h.np b.h.nn b.h.nc)∧w'.cell? ⟨W.heap.size+1,5,none⟩=some (.slice b.h.kp b.h.kn b.h.kc)) (go_keep) ((first | (go_at_call 16; (with_reducible refine Calls.mono (yF.out _ H_v6.out) ?_); rintro e v7 ⟨rfl,hbv⟩; have H_v7:=hid (H_v6.out.trans (hbv.mono H_v6.out.size)); have acM:=hid (Wh.out.trans (hbv.mono Wh.out.size)); obtain ⟨z0,z1,z2,z3,z4,z5⟩:=(KX.out v7 H_v7.out).box; obtain ⟨s0,s1,s2,s3,s4,s5⟩:=(OQ.out v7 H_v7.out).box; clear hbv) | (go_at_call 27; (with_reducible refine Calls.mono (H27.out _ _ _ _ S9.out Zd.out XB) ?_); rintro e v6 ⟨rfl,hbv⟩; have H_v6:=hid (H_v5.out.trans (hbv.mono H_v5.out.size)); have Wh:=hid (S9.out.trans (hbv.mono S9.out.size)); obtain ⟨z0,z1,z2,z3,z4,z5⟩:=(KX.out v6 H_v6.out).box; obtain ⟨s0,s1,s2,s3,s4,s5⟩:=(OQ.out v6 H_v6.out).box; clear hbv) | (go_at_call 28; (with_reducible refine Calls.mono (H28.out _ H_v4.out) ?_); rintro e v5 ⟨p5,n5,c5,rfl,hi5,XB,hbv⟩; have H_v5:=hid (H_v4.out.trans (hbv.mono H_v4.out.size)); have S9:=hid (Wi.out.trans (hbv.mono Wi.out.size)); obtain ⟨z0,z1,z2,z3,z4,z5⟩:=(KX.out v5 H_v5.out).box; obtain ⟨s0,s1,s2,s3,s4,s5⟩:=(OQ.out v5 H_v5.out).box; have Zd:=hid hi5; clear hi5; clear hbv) | (go_at_call 26; (with_reducible refine Calls.mono (Zc.out _ H_v3.out) ?_); rintro e v4 ⟨rfl,hbv⟩; have H_v4:=hid (H_v3.out.trans (hbv.mono H_v3.out.size)); have Wi:=hid (Wj.out.trans (hbv.mono Wj.out.size)); obtain ⟨z0,z1,z2,z3,z4,z5⟩:=(KX.out v4 H_v4.out).box; obtain ⟨s0,s1,s2,s3,s4,s5⟩:=(OQ.out v4 H_v4.out).box; clear hbv) | (go_at_call 19; (with_reducible refine Calls.mono (H19.out _ H_v2.out) ?_); rintro e v3 ⟨rfl,hbv⟩; have H_v3:=hid (H_v2.out.trans (hbv.mono H_v2.out.size)); have Wj:=hid (Wl.out.trans (hbv.mono Wl.out.size)); obtain ⟨z0,z1,z2,z3,z4,z5⟩:=(KX.out v3 H_v3.out).box; obtain ⟨s0,s1,s2,s3,s4,s5⟩:=(OQ.out v3 H_v3.out).box; clear hbv) | (go_at_call 26; (with_reducible refine Calls.mono (H26.out _ H_v1.out) ?_); rintro e v2 ⟨rfl,hbv⟩; have H_v2:=hid (H_v1.out.trans (hbv.mono H_v1.out.size)); have Wl:=hid (Wn.out.trans (hbv.mono Wn.out.size)); obtain ⟨z0,z1,z2,z3,z4,z5⟩:=(KX.out v2 H_v2.out).box; obtain ⟨s0,s1,s2,s3,s4,s5⟩:=(OQ.out v2 H_v2.out).box; clear hbv) | (go_at_call 25; (with_reducible refine Calls.mono (H25.out _ H_v0.out) ?_); rintro e v1 ⟨rfl,hbv⟩; have H_v1:=hid (H_v0.out.trans (hbv.mono H_v0.out.size)); have Wn:=hid (We.out.trans (hbv.mono We.out.size)); obtain ⟨z0,z1,z2,z3,z4,z5⟩:=(KX.out v1 H_v1.out).box; obtain ⟨s0,s1,s2,s3,s4,s5⟩:=(OQ.out v1 H_v1.out).box; clear hbv)))
    go_wp2_with fail
    go_ret
    exact ⟨rfl,HB0.out _ H_v7.out⟩
end Go.Proofs.YtmpmfamiegpmgaaGreatDoor
