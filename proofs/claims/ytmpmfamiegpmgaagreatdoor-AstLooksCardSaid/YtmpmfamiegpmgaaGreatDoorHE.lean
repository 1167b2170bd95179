/-
  slices.Equal of numbers, and the function that holds two nodes against one another (Alike's own).; The kids of two nodes that are held against one another (couple's kids).; ast.Alike, whole: two nodes and all below them are held against one another.
-/
import Derived.Test.YtmpmfamiegpmgaaGreatDoorHD
import Derived.Test.YtmpmfamiegpmgaaGreatDoorHB
import Derived.Deep.RegionLaw
import Derived.Deep.CutRange
import Derived.BigQuiet
import Derived.Deep.AppendLies
import Derived.Test.YtmpmfamiegpmgaaGreatDoorGF
namespace Go.Proofs.YtmpmfamiegpmgaaGreatDoor
open Tryz
open Go.Lib (cell_of_heap hid)
open Go.RowKit
set_option maxRecDepth 20000
set_option linter.unusedVariables false
set_option linter.unusedSimpArgs false
set_option maxHeartbeats 1000000 in
theorem Cj (p:Option Addr) (n c:Nat) (l:List Int) (p':Option Addr) (n' c':Nat) (l':List Int) (w:World) (h:InV mkI w p n c l) (h':InV mkI w p' n' c' l') (hn:n≤17592186044416) :
  Calls prog 65 #[.slice p n c,.slice p' n' c'] w fun e w'=>e=.returned (.bool (iH l l'))∧∃ d,w'=w.drewN d:=by
 by_cases hln:n=n'
 ·subst hln
  have hl:=h.1;have hl':=h'.1;have HA:=hid h;have HA':=hid h';have HL:=hid hl;have HL':=hid hl';clear h h' hl hl';have hnz:(0:Int)≤(n:Int):=by omega
  go_enter func65,ntmps65
  go_wp2_with fail
  go_loopw [13] (fun i wr=>∃ k:Nat,k≤n∧i=.int .i64 k∧Hid (∀ i (h1:i < l.length) (h2:i < l'.length),i < k→l[i]=l'[i])∧∃ m,wr=w.drewN m) (fun i _=>n - (intOf i).toNat)
  case atStart=>exact ⟨0,by omega,rfl,hid (fun i _ _ h=>by omega),0,rfl⟩
  case round =>
   obtain ⟨k,hk,rfl,HE,m,rfl⟩:=hrel
   by_cases hlt:k < n
   ·obtain ⟨b,off,rfl,hc1,hb,hat⟩:=HA.out.2.resolve_left (by omega)
    obtain ⟨b',off',rfl,hc1',hb',hat'⟩:=HA'.out.2.resolve_left (by omega);have hkl:k < l.length:=by rw [← HL.out]; exact hlt
    have hkl':k < l'.length:=by rw [← HL'.out]; exact hlt
    have c0:w.cell? ⟨b,off+k,none⟩=some (.int .i64 l[k]):=hat k hkl;have c1:w.cell? ⟨b',off'+k,none⟩=some (.int .i64 l'[k]):=hat' k hkl';have hk1:(0:Int)≤(k:Int):=by omega
    have hk2:(k:Int) < (n:Int):=by omega
    by_cases heq:l[k]=l'[k]
    ·have HE2:Hid (∀ i (h1:i < l.length) (h2:i < l'.length),i < k+1→l[i]=l'[i]):=hid fun i h1 h2 hi=>by
      rcases Nat.lt_or_ge i k with h3 | h3
      ·exact HE.out i h1 h2 h3
      ·obtain rfl:i=k:=by omega
       exact heq
     rw [← heq] at c1;clear heq hat hat';generalize l[k]=t at *
     go_wp2
     go_quiet (fail)
     go_wp2
     go_roundw
     case rel=>exact ⟨k+1,by omega,by go_num,HE2,_,rfl⟩
     case measure=>simp [intOf]; omega
    ·have HR:=hid (CP hkl hkl' heq)
     clear hat hat';have hne:(l[k] == l'[k])=false:=by rw [beq_eq_false_iff_ne]; exact heq
     generalize l[k]=t at *;generalize l'[k]=t' at *
     go_wp2
     go_quiet (fail)
     go_wp2
     go_ret
     exact ⟨aK HR.out.symm,_,World.drewN_drewN ..⟩
   ·have HR:Hid (iH l l'=true):=hid (oQ (by rw [← HL.out,← HL'.out]) fun i h1 h2=>HE.out i h1 h2 (by rw [← HL.out] at h1; omega))
    go_wp2
    go_ret
    exact ⟨aK HR.out.symm,_,rfl⟩
 ·have HR:Hid (iH l l'=false):=hid (xQ (by rw [← h.1,← h'.1]; exact hln))
  have hne:((n:Int) == (n':Int))=false:=by rw [beq_eq_false_iff_ne]; omega
  clear h h'
  go_enter func65,ntmps65
  go_wp2
  go_ret
  exact ⟨aK HR.out.symm,0,rfl⟩
def Hd.wel (h g:Hd):Bool:=h.k == g.k && (h.m == g.m && (iH h.ns g.ns && h.kn == g.kn))
def acP (w:World) (a:Addr) (x y:Addr):Prop:=w.cell? a=some (.pointer (some x))∧w.cell? (a.add 1)=some (.pointer (some y))
set_option maxHeartbeats 4000000 in
theorem Fb (cb co ab ao bb bo:Nat) (h g:Hd) (w:World) (h0:w.cell? ⟨cb,co,none⟩=some (.pointer (some ⟨ab,ao,none⟩))) (h1:w.cell? ⟨cb,co+1,none⟩=some (.pointer (some ⟨bb,bo,none⟩)))
  (ha:bP w ab ao h) (hb:bP w bb bo g) (hna:InV mkI w h.np h.nn h.nc h.ns) (hnb:InV mkI w g.np g.nn g.nc g.ns) (hn:h.nn≤1000000) :
  Calls prog 64 #[.pointer (some ⟨cb,co,none⟩)] w fun e w'=>e=.returned (.bool (h.wel g))∧∃ d,w'=w.drewN d:=by
 have HC:Hid (∀ a d,Calls prog 65 #[.slice h.np h.nn h.nc,.slice g.np g.nn g.nc] (w.drewN (a+d)) fun e w'=>e=.returned (.bool (iH h.ns g.ns))∧∃ m,w'=w.drewN (a+m)):=hid fun a d=>by
  have hb:=below_drewN (Below.refl w.heap.size w) (a+d);refine (Cj _ _ _ _ _ _ _ _ _ (hna.step hb) (hnb.step hb) (by omega)).mono ?_
  rintro e w' ⟨rfl,m,rfl⟩;exact ⟨rfl,d+m,by rw [World.drewN_drewN,Nat.add_assoc]⟩
 have Hm:Hid (h.wel g=(h.k == g.k && (h.m == g.m && (iH h.ns g.ns && h.kn == g.kn)))):=hid rfl;obtain ⟨a0,a1,a2,a3,a4,a5⟩:=ha;obtain ⟨b0,b1,b2,b3,b4,b5⟩:=hb;obtain ⟨bn,hbn⟩:∃ b,b=iH h.ns g.ns:=⟨_,rfl⟩
 rw [← hbn] at HC Hm;generalize h.wel g=R at *;obtain ⟨hk,hm,hf,ht,np,nn,nc,ns,kp,kn,kc⟩:=h;obtain ⟨gk,gm,gf,gt,np',nn',nc',ns',kp',kn',kc'⟩:=g
 simp only at *
 clear hna hnb hbn a2 a3 b2 b3
 by_cases q1:hk=gk
 case neg =>
  have q1b:(hk == gk)=false:=by rw [beq_eq_false_iff_ne]; exact q1
  have HR:Hid (R=false):=hid (by rw [Hm.out,q1b]; rfl);have qd:decide (hk=gk)=false:=by simpa using q1
  go_enter func64,ntmps64
  go_wp2_with fail
  go_quiet (fail)
  go_wp2_with fail
  go_quiet (fail)
  go_wp2_with fail
  go_ret
  exact ⟨by rw [HR.out]; rfl,_,World.drewN_drewN ..⟩
 subst q1
 by_cases q2:hm=gm
 case neg =>
  have q2b:(hm == gm)=false:=by rw [beq_eq_false_iff_ne]; exact q2
  have HR:Hid (R=false):=hid (by rw [Hm.out,q2b]; simp);have qd:decide (hm=gm)=false:=by simpa using q2
  go_enter func64,ntmps64
  go_wp2_with fail
  go_quiet (fail)
  go_wp2_with fail
  go_quiet (fail)
  go_wp2_with fail
  go_ret
  exact ⟨by rw [HR.out]; rfl,_,World.drewN_drewN ..⟩
 subst q2
 cases bn
 case false =>
  have HR:Hid (R=false):=hid (by rw [Hm.out]; simp)
  go_enter func64,ntmps64
  go_wp2_with fail
  go_quiet (fail)
  go_wp2_with fail
  go_quiet (exact HC.out _ _)
  go_wp2_with fail
  go_ret
  exact ⟨by rw [HR.out]; rfl,_,World.drewN_drewN ..⟩
 by_cases q4:kn=kn'
 case neg =>
  have q4b:(kn == kn')=false:=by rw [beq_eq_false_iff_ne]; exact q4
  have q4c:((kn:Int) == (kn':Int))=false:=by rw [beq_eq_false_iff_ne]; omega
  have HR:Hid (R=false):=hid (by rw [Hm.out,q4b]; simp)
  go_enter func64,ntmps64
  go_wp2_with fail
  go_quiet (fail)
  go_wp2_with fail
  go_quiet (exact HC.out _ _)
  go_wp2_with fail
  go_ret
  exact ⟨by rw [HR.out]; rfl,_,World.drewN_drewN ..⟩
 subst q4;have HR:Hid (R=true):=hid (by rw [Hm.out]; simp)
 go_enter func64,ntmps64
 go_wp2_with fail
 go_quiet (fail)
 go_wp2_with fail
 go_quiet (exact HC.out _ _)
 go_wp2_with fail
 go_ret
 exact ⟨by rw [HR.out]; rfl,_,World.drewN_drewN ..⟩
def kY (l:List (Addr × Addr)):List Value:=l.flatMap fun p=>[.pointer (some p.1),.pointer (some p.2)]
theorem zH (l:List (Addr × Addr)) (p:Addr × Addr):kY (l++[p])=kY l++[.pointer (some p.1),.pointer (some p.2)]:=by simp [kY]
theorem BP (l:List (Addr × Addr)) (j:Nat) (p:Addr × Addr) (h:l[j]?=some p):(kY l)[j * 2]?=some (.pointer (some p.1))∧(kY l)[j * 2+1]?=some (.pointer (some p.2)):=by
 induction l generalizing j with
 | nil=>simp at h
 | cons x t ih =>
  cases j with
  | zero =>
   simp only [List.getElem?_cons_zero,Option.some.injEq] at h;subst h;exact ⟨rfl,rfl⟩
  | succ j =>
   simp only [List.getElem?_cons_succ] at h;obtain ⟨h1,h2⟩:=ih j h;rw [show (j+1) * 2=j * 2+2 by omega,show j * 2+2+1=(j * 2+1)+2 by omega];exact ⟨h1,h2⟩
def kZ (kb off kb' off' n:Nat):List (Addr × Addr):=(List.range n).map fun i=>(⟨kb,off+i * 6,none⟩,⟨kb',off'+i * 6,none⟩)
theorem yN (kb off kb' off' n:Nat):kZ kb off kb' off' (n+1)=kZ kb off kb' off' n++[(⟨kb,off+n * 6,none⟩,⟨kb',off'+n * 6,none⟩)]:=by
 simp [kZ,List.range_succ]
theorem qK {w:World} {B E size n:Nat} {v:Value} {xs:List Value} (h:w.ownsRow B E size v n xs) (g:Nat) (hg:v.ownBlock=some g):B≤g∧g < w.heap.size:=by
 obtain ⟨_,⟨h0,_⟩ | ⟨g',c,cur,hv,hb,hh,_⟩⟩:=h
 ·rw [h0] at hg; simp [Value.ownBlock] at hg
 ·have:g'=g:=by rw [hv] at hg; simpa [Value.ownBlock] using hg
  subst this;exact ⟨hb,hlt hh⟩
set_option maxHeartbeats 8000000 in
theorem EP (cb co ab ao bb bo:Nat) (h g:Hd) (w:World) (hcb:cb < w.heap.size) (h0:w.cell? ⟨cb,co,none⟩=some (.pointer (some ⟨ab,ao,none⟩))) (h1:w.cell? ⟨cb,co+1,none⟩=some (.pointer (some ⟨bb,bo,none⟩)))
  (ha:bP w ab ao h) (hb:bP w bb bo g) (hab:ab < w.heap.size) (hbb:bb < w.heap.size) (kb off kb' off' n:Nat) (hn:h.kn=n) (hn':g.kn=n)
  (hk:n=0∨h.kp=some ⟨kb,off,none⟩∧n≤h.kc∧g.kp=some ⟨kb',off',none⟩∧n≤g.kc) (hn6:n≤1000000) :
  Calls prog 63 #[.pointer (some ⟨cb,co,none⟩)] w fun e w'=>∃ q c,e=.returned (.slice q n c)∧w'.ownsRow w.heap.size 110 2 (.slice q n c) n (kY (kZ kb off kb' off' n))∧Below w.heap.size w w':=by
 obtain ⟨i0,hi0,hy0,hy1,hy2⟩:∃ i0,prog.info? 110=some i0∧i0.zero=some (.agg #[.pointer none,.pointer none])∧i0.size=2∧i0.bytes=16:=by
  refine ⟨_,rfl,?_,?_,?_⟩ <;> kernel_rfl
 obtain ⟨a0,a1,a2,a3,a4,a5⟩:=ha;obtain ⟨b0,b1,b2,b3,b4,b5⟩:=hb;obtain ⟨hk',hm,hf,ht,np,nn,nc,ns,kp,kn,kc⟩:=h;obtain ⟨gk,gm,gf,gt,np',nn',nc',ns',kp',kn',kc'⟩:=g
 simp only at *
 subst hn;subst hn';have HF:Hid (∀ W,Below w.heap.size w W→W.cell? ⟨cb,co,none⟩=some (.pointer (some ⟨ab,ao,none⟩))∧W.cell? ⟨cb,co+1,none⟩=some (.pointer (some ⟨bb,bo,none⟩))∧W.cell? ⟨ab,ao+5,none⟩=some (.slice kp kn' kc)∧W.cell? ⟨bb,bo+5,none⟩=some (.slice kp' kn' kc')):=hid fun W hW =>
  ⟨(hW.cell (p:=⟨cb,co,none⟩) hcb).trans h0,(hW.cell (p:=⟨cb,co+1,none⟩) hcb).trans h1,(hW.cell (p:=⟨ab,_,none⟩) hab).trans a5,(hW.cell (p:=⟨bb,_,none⟩) hbb).trans b5⟩
 have HK:=hid hk;clear a0 a1 a2 a3 a4 b0 b1 b2 b3 b4 hk;generalize kn'=n at *
 go_enter func63,ntmps63
 go_wp2_with fail
 clear h0 h1 a5 b5
 go_loopw [3,13] (fun v i wr=>∃ (k:Nat) (q:Option Addr) (c:Nat),k≤n∧i=.int .i64 k∧v=.slice q k c∧Hid (wr.ownsRow w.heap.size 110 2 (.slice q k c) k (kY (kZ kb off kb' off' k)))∧Hid (Below w.heap.size w wr)) (fun _ i _=>n - (intOf i).toNat)
 case atStart=>exact ⟨0,none,0,by omega,rfl,rfl,hid ⟨rfl,.inl ⟨rfl,rfl⟩⟩,hid (Below.refl _ _)⟩
 case round =>
  obtain ⟨k,q,c,hk,rfl,rfl,HR,HB⟩:=hrel
  by_cases hlt:k < n
  ·obtain ⟨rfl,hc1,rfl,hc2⟩:=HK.out.resolve_left (by omega)
   obtain ⟨z0,z1,z2,z3⟩:=HF.out wr HB.out;have hbd:Below wr.heap.size wr wr.drew:=(Below.refl _ _).drew;have hbn:Below wr.heap.size wr.drew (wr.drew.alloc (.cells #[.pointer (some ⟨kb,off+k * 6,none⟩),.pointer (some ⟨kb',off'+k * 6,none⟩)] 110)):=(Below.refl wr.heap.size wr.drew).alloc (show wr.heap.size≤wr.drew.heap.size from Nat.le_refl _) _;have hbx:=hbd.trans hbn;have sZ:=hid (row_step HR.out hbx);have SI:Hid (∀ jj u,([.pointer (some ⟨kb,off+k * 6,none⟩),.pointer (some ⟨kb',off'+k * 6,none⟩)]:List Value)[jj]?=some u→(wr.drew.alloc (.cells #[.pointer (some ⟨kb,off+k * 6,none⟩),.pointer (some ⟨kb',off'+k * 6,none⟩)] 110)).cell? ((⟨wr.heap.size,0,none⟩:Addr).add jj)=some u):=hid (World.news_of_block (heap_alloc_new wr.drew (.cells #[.pointer (some ⟨kb,off+k * 6,none⟩),.pointer (some ⟨kb',off'+k * 6,none⟩)] 110)));have hone:∀ u ∈ ([.pointer (some ⟨kb,off+k * 6,none⟩),.pointer (some ⟨kb',off'+k * 6,none⟩)]:List Value),u.oneCell'=true:=fun u hu=>by
    simp only [List.mem_cons,List.not_mem_nil,or_false] at hu
    rcases hu with rfl | rfl <;> rfl
   have SK:=hid (HB.out.trans (hbx.mono HB.out.size));have hwz:=SK.out.size;have r1:(0:Int)≤(k:Int):=by omega
   have r2:(k:Int) < (n:Int):=by omega
   clear hbd hbn hbx
   go_upto_region 5 with (fail)
   go_region_law (refine step_append_lies _ (by rfl) _ _ _ (by rfl) w.heap.size 110 i0 _ 2 16 underlying172 hi0 hy0 hy1 hy2 rfl (by decide) _ k _ (by rfl) sZ.out ⟨wr.heap.size,0,none⟩ 1 1 ([.pointer (some ⟨kb,off+k * 6,none⟩),.pointer (some ⟨kb',off'+k * 6,none⟩)]:List Value) (by rfl) (by rfl) SI.out hone (by omega) (by unfold maxLen; omega) (by omega) hwz (wr.heap.size+1) (by simp) ?_; intro gg cap w7 hown hgrow hat VQ; have HOWN:=hid hown; have AA:=hid hgrow; clear hown hgrow hat)
   all_goals
    have VM:=hid (SK.out.grown AA.out hwz (fun g hg=>(qK sZ.out g hg).1))
    go_wp2_with fail
    go_roundw
    case rel=>exact ⟨k+1,_,_,by omega,by go_num,rfl,hid (by rw [yN,zH]; exact HOWN.out),VM⟩
    case measure=>simp [intOf]; omega
  ·have hkn:k=n:=by omega
   have hlt2:¬ (k:Int) < (n:Int):=by omega
   go_wp2_with fail
   go_ret
   subst hkn;exact ⟨q,c,rfl,HR.out,HB.out⟩
structure CE where
 x:Br
 y:Br
 xb:Nat
 xo:Nat
 yb:Nat
 yo:Nat
 b:Nat
 o:Nat
def CE.ad (e:CE):Addr:=⟨e.b,e.o,none⟩
def CE.sz (e:CE):Nat:=e.x.flatB.length
structure CE.Good (w0:World) (e:CE):Prop where
 xl:e.xb < w0.heap.size
 yl:e.yb < w0.heap.size
 xa:bP w0 e.xb e.xo e.x.h
 ya:bP w0 e.yb e.yo e.y.h
 xw:e.x.Lies w0
 yw:e.y.Lies w0
 few:e.x.Few
def CE.At (w:World) (g:Nat) (e:CE):Prop:=e.b≠g∧e.b < w.heap.size∧w.cell? ⟨e.b,e.o,none⟩=some (.pointer (some ⟨e.xb,e.xo,none⟩))∧w.cell? ⟨e.b,e.o+1,none⟩=some (.pointer (some ⟨e.yb,e.yo,none⟩))
theorem CE.At.move {w w':World} {g g':Nat} {e:CE} (h:e.At w g) (hg:w.grownBy w' (some g)) (hg':g'=g∨w.heap.size≤g'):e.At w' g':=by
 obtain ⟨h1,h2,h3,h4⟩:=h;have hb:=hg.block e.b h2 fun hc=>h1 (Option.some.inj hc)
 refine ⟨?_,Nat.lt_of_lt_of_le h2 hg.size,(ed hb _).trans h3,(ed hb _).trans h4⟩
 rcases hg' with rfl | hx
 ·exact h1
 ·omega
theorem CE.At.step {w w':World} {g:Nat} {e:CE} (h:e.At w g) (hb:Below w.heap.size w w'):e.At w' g:=by
 obtain ⟨h1,h2,h3,h4⟩:=h;exact ⟨h1,Nat.lt_of_lt_of_le h2 hb.size,(hb.cell (p:=⟨e.b,_,none⟩) h2).trans h3,(hb.cell (p:=⟨e.b,_,none⟩) h2).trans h4⟩
def eU (kb off kb' off' cb:Nat):Nat→List Br→List Br→List CE
 | i,k :: ks,j :: js=>⟨k,j,kb,off+i * 6,kb',off'+i * 6,cb,i * 2⟩ :: eU kb off kb' off' cb (i+1) ks js
 | _,_,_=>[]
theorem sS (kb off kb' off' cb:Nat):∀ (ks js:List Br) (i m:Nat) (e:CE),(eU kb off kb' off' cb i ks js)[m]?=some e→∃ k j,ks[m]?=some k∧js[m]?=some j∧e=⟨k,j,kb,off+(i+m) * 6,kb',off'+(i+m) * 6,cb,(i+m) * 2⟩:=by
 intro ks
 induction ks with
 | nil=>intro js i m e h; simp [eU] at h
 | cons k ks ih =>
  intro js i m e h
  cases js with
  | nil=>simp [eU] at h
  | cons j js =>
   simp only [eU] at h
   cases m with
   | zero =>
    simp only [List.getElem?_cons_zero,Option.some.injEq] at h;exact ⟨k,j,rfl,rfl,h.symm⟩
   | succ m =>
    simp only [List.getElem?_cons_succ] at h;obtain ⟨k',j',h1,h2,h3⟩:=ih js (i+1) m e h;refine ⟨k',j',by simpa using h1,by simpa using h2,?_⟩
    rw [h3,show i+1+m=i+(m+1) by omega]
theorem CS (kb off kb' off' cb:Nat):∀ (ks js:List Br) (i:Nat),ks.length=js.length→(eU kb off kb' off' cb i ks js).length=ks.length:=by
 intro ks
 induction ks with
 | nil=>intro js i _; simp [eU]
 | cons k ks ih =>
  intro js i h
  cases js with
  | nil=>simp at h
  | cons j js=>simp only [eU,List.length_cons]; rw [ih js (i+1) (by simpa using h)]
theorem BV (kb off kb' off' cb:Nat):∀ (ks js:List Br) (i:Nat),ks.length=js.length→(eU kb off kb' off' cb i ks js).all (fun e=>e.x.alb e.y)=pK ks js:=by
 intro ks
 induction ks with
 | nil=>intro js i _; simp [eU,pK]
 | cons k ks ih =>
  intro js i h
  cases js with
  | nil=>simp at h
  | cons j js=>simp only [eU,List.all_cons,pK]; rw [ih js (i+1) (by simpa using h)]
theorem Dq (kb off kb' off' cb:Nat):∀ (ks js:List Br) (i:Nat),ks.length=js.length→szs CE.sz (eU kb off kb' off' cb i ks js)=(aB ks).length:=by
 intro ks
 induction ks with
 | nil=>intro js i _; simp [eU,szs,aB]
 | cons k ks ih =>
  intro js i h
  cases js with
  | nil=>simp at h
  | cons j js =>
   simp only [eU,szs,aB,List.length_append];rw [ih js (i+1) (by simpa using h)]
   rfl
theorem O3 (x y:Br) (w:World) (hx:x.Lies w) (hy:y.Lies w):x.alb y=(x.h.wel y.h && pK x.ks y.ks)∧(x.h.wel y.h=true→x.ks.length=y.ks.length):=by
 have h1:=((aO _ _).1 hx).2.1.1;have h2:=((aO _ _).1 hy).2.1.1;obtain ⟨h,ks⟩:=x;obtain ⟨g,js⟩:=y;simp only [Br.h,Br.ks] at h1 h2 ⊢;simp only [Br.alb,Br.h,Br.ks,Hd.wel,h1,h2];refine ⟨by simp only [Bool.and_assoc],fun hh=>?_⟩
 simp only [Bool.and_eq_true,beq_iff_eq] at hh;exact hh.2.2.2
def Ci (w0:World) (R:Bool) (st:List CE) (g:Nat) (w:World):Prop:=(∀ e ∈ st,e.Good w0∧e.At w g)∧Below w0.heap.size w0 w∧R=st.all fun e=>e.x.alb e.y
theorem Ci.move {w0 w w':World} {R:Bool} {st:List CE} {g g':Nat} (h:Ci w0 R st g w) (hg:w.grownBy w' (some g)) (hb:w0.heap.size≤g) (hg':g'=g∨w.heap.size≤g'):Ci w0 R st g' w':=by
 obtain ⟨h1,h2,h3⟩:=h;exact ⟨fun e he=>⟨(h1 e he).1,(h1 e he).2.move hg hg'⟩,h2.grown hg h2.size fun a ha=>by cases ha; exact hb,h3⟩
theorem JA {y:Br} (h:y.Few):∀ k ∈ y.ks,k.Few:=by
 cases y with
 | mk h ks =>
  intro k hk;simp only [Br.ks] at hk;simp only [Br.Few] at h;exact (fM ks).1 h.2.2 k hk
theorem TM {y:Br} {w:World} (h:y.Few) (hl:y.Lies w):y.h.nn≤1000000∧y.h.kn≤1000000:=by
 have h3:=((aO _ _).1 hl).1.1;have h4:=((aO _ _).1 hl).2.1.1
 cases y with
 | mk h' ks =>
  simp only [Br.Few,Br.h,Br.ks] at *
  omega
theorem Dl {w0 w wr:World} {e:CE} (hg:e.Good w0) (hb:Below w0.heap.size w0 w) {q:Option Addr} {c kb off kb' off' g:Nat} (hn:e.x.ks.length=e.y.ks.length) (hgl:g < w.heap.size)
  (hk:e.x.h.kn=0∨e.x.h.kp=some ⟨kb,off,none⟩∧e.y.h.kp=some ⟨kb',off',none⟩)
  (hr:wr.ownsRow w.heap.size 110 2 (.slice q e.x.h.kn c) e.x.h.kn (kY (kZ kb off kb' off' e.x.h.kn))) :
  ∃ cb,(e.x.h.kn=0∨q=some ⟨cb,0,none⟩∧e.x.h.kn≤c)∧∀ z ∈ eU kb off kb' off' cb 0 e.x.ks e.y.ks,z.Good w0∧z.At wr g:=by
 have hlx:=(aO _ _).1 hg.xw;have Gm:=(aO _ _).1 hg.yw;have YR:=hlx.2.1.1;have hyn:=Gm.2.1.1;obtain ⟨_,⟨_,h0⟩ | ⟨cb,cc,cur,hv,hge,hh,hle,_⟩⟩:=id hr
 ·refine ⟨0,.inl h0,fun z hz=>?_⟩
  have:e.x.ks=[]:=List.length_eq_zero_iff.1 (by omega)
  rw [this] at hz
  simp [eU] at hz
 ·simp only [Value.slice.injEq,true_and] at hv
  obtain ⟨rfl,rfl⟩:=hv;refine ⟨cb,.inr ⟨rfl,hle⟩,fun z hz=>?_⟩
  obtain ⟨m,hm⟩:=List.getElem?_of_mem hz;obtain ⟨k,j,h1,h2,rfl⟩:=sS _ _ _ _ _ _ _ _ _ _ hm;have hml:=(List.getElem?_eq_some_iff.1 h1).1;have hml':=(List.getElem?_eq_some_iff.1 h2).1;obtain ⟨kx,ky⟩:=hk.resolve_left (by omega);obtain ⟨b1,o1,e1,_,l1,a1⟩:=hlx.2.1.2.resolve_left (by omega);obtain ⟨b2,o2,e2,_,l2,a2⟩:=Gm.2.1.2.resolve_left (by omega);rw [kx] at e1;rw [ky] at e2;simp only [Option.some.injEq,Addr.mk.injEq,and_true] at e1 e2;obtain ⟨rfl,rfl⟩:=e1;obtain ⟨rfl,rfl⟩:=e2;have ek:=(List.getElem?_eq_some_iff.1 h1).2;have ej:=(List.getElem?_eq_some_iff.1 h2).2;have hp:(kZ kb off kb' off' e.x.h.kn)[m]?=some (⟨kb,off+m * 6,none⟩,⟨kb',off'+m * 6,none⟩):=by
   unfold kZ;rw [List.getElem?_map,List.getElem?_range (by omega)]
   rfl
  obtain ⟨c1,c2⟩:=BP _ m _ hp;refine ⟨⟨l1,l2,?_,?_,?_,?_,?_⟩,?_⟩
  ·simp only [Nat.zero_add]; rw [← ek]; exact a1 m hml
  ·simp only [Nat.zero_add]; rw [← ej]; exact a2 m hml'
  ·simp only; rw [← ek]; exact hlx.2.2 _ (List.getElem_mem hml)
  ·simp only; rw [← ej]; exact Gm.2.2 _ (List.getElem_mem hml')
  ·simp only; rw [← ek]; exact JA hg.few _ (List.getElem_mem hml)
  ·simp only [CE.At,Nat.zero_add]
   exact ⟨by omega,hlt hh,kJ hr (m * 2) _ c1,kJ hr (m * 2+1) _ c2⟩
theorem ZO (args:Array Value) (w:World):Sem.run prog (callFunc 63 args) w=.ok (.enter 63 args) w:=aV func63 (by kernel_rfl) (by kernel_rfl) args w
theorem Zh (args:Array Value) (w:World):Sem.run prog (callFunc 64 args) w=.ok (.enter 64 args) w:=aV func64 (by kernel_rfl) (by kernel_rfl) args w
set_option maxHeartbeats 8000000 in
theorem FN (e0:CE) (w0 w:World) (hg:e0.Good w0) (hb:Below w0.heap.size w0 w) (hat:e0.At w w.heap.size) (hM:e0.sz≤10000000) :
  Calls prog 62 #[.pointer (some e0.ad),.func (.func 63) #[] #[],.func (.func 64) #[] #[]] w fun x w'=>x=.returned (.bool (e0.x.alb e0.y))∧Below w0.heap.size w0 w':=by
 obtain ⟨R,hR⟩:∃ R,R=e0.x.alb e0.y:=⟨_,rfl⟩
 rw [← hR];have HLEN:Hid (∀ l:List CE,l.length≤szs CE.sz l):=hid fun l=>tY CE.sz (fun e=>ig e.x) l
 have hb0:Below w.heap.size w (w.alloc (.cells #[.pointer (some e0.ad)] 111)):=(Below.refl _ _).alloc (Nat.le_refl _) _;have hI0:Hid (Ci w0 R [e0] w.heap.size (w.alloc (.cells #[.pointer (some e0.ad)] 111))):=hid ⟨fun e he=>by rw [List.mem_singleton.1 he]; exact ⟨hg,hat.step hb0⟩,hb.trans (hb0.mono hb.size),by simp [hR]⟩;have Oo:Hid ((w.alloc (.cells #[.pointer (some e0.ad)] 111)).ownsRow w.heap.size 111 1 (.slice (some ⟨w.heap.size,0,none⟩) 1 1) 1 (ptrs CE.ad [e0])):=hid (dB (heap_alloc_new w _) (Nat.le_refl _) rfl (by unfold maxLen; omega));have hz0:w.heap.size≤(w.alloc (.cells #[.pointer (some e0.ad)] 111)).heap.size:=by simp
 have infoP:(prog.info? 111).map (fun i=>(i.zero,i.size,i.bytes))=some (some (.pointer none),1,8):=by kernel_rfl
 obtain ⟨i0,hi0,hy0,hy1,hy2⟩:=info_parts infoP;have hS0:Hid (szs CE.sz [e0]≤10000000):=hid (by simp [szs]; exact hM);have hck:=ZO;have hcw:=Zh;have HWB:Hid (w0.heap.size≤w.heap.size):=hid hb.size;obtain ⟨a0,ha0⟩:∃ a,a=e0.ad:=⟨_,rfl⟩
 rw [← ha0] at hI0 Oo hz0 ⊢;clear infoP hM hg hb hat hR hb0 ha0
 go_enter func62,ntmps62
 go_wp2_with fail
 go_loopg [7] 10000000 (fun gk v7 wr=>∃ (st:List CE) (g c d:Nat),v7=.slice (some ⟨g,0,none⟩) d c∧Hid (st.length=d)∧Hid (szs CE.sz st≤gk)∧Hid (Ci w0 R st g wr)∧gk≤10000000∧d≤gk∧Hid (wr.ownsRow w.heap.size 111 1 (.slice (some ⟨g,0,none⟩) d c) d (ptrs CE.ad st))∧w.heap.size≤wr.heap.size)
 case atStart=>exact ⟨[e0],w.heap.size,1,1,rfl,hid rfl,hS0,hI0,by omega,by omega,Oo,hz0⟩
 case round =>
  clear hI0 Oo hS0 hz0;obtain ⟨st,g,c,d,rfl,HD,HS,HI,hgk,hdk,HO,zZ⟩:=hrel;have hO:=HO.out;obtain ⟨hgb,hgl,hdc,hcm⟩:=uk hO
  cases d with
  | zero =>
   have hst:st=[]:=List.length_eq_zero_iff.1 HD.out;subst hst;have HR:Hid (R=true):=hid HI.out.2.2;have mi:=hid HI.out.2.1;clear hO HI
   go_wp2_with fail
   go_ret
   exact ⟨by rw [HR.out]; rfl,mi.out⟩
  | succ d =>
   obtain ⟨e,st',rfl⟩:∃ e r,st=e :: r:=by
    cases st with
    | nil=>have:=HD.out; cases this
    | cons e r=>exact ⟨e,r,rfl⟩
   have hd:st'.length=d:=by have:=HD.out; simpa using this
   rw [iP] at hO;have c0:wr.cell? ⟨g,d,none⟩=some (.pointer (some (CE.ad e))):=fQ hO d _ (by rw [List.getElem?_append_right (by rw [jw]; omega),jw,hd,Nat.sub_self]; rfl);have mr:=hid (kW hO);have hsub:IntKind.i64.wrap (((d+1:Nat):Int) - 1)=(d:Int):=by rw [show ((d+1:Nat):Int) - 1=(d:Int) by omega]; exact IntWalk.i64_in _ (by omega)
   have hsub2:IntKind.i64.wrap ((d:Int)+1 - 1)=(d:Int):=by rw [show (d:Int)+1 - 1=(d:Int) by omega]; exact IntWalk.i64_in _ (by omega)
   have Gg:=hid hd;obtain ⟨hall,hbel,hRR⟩:=HI.out;obtain ⟨hgood,yJ,OM,VR,VS⟩:=hall e (by simp);have hxa:=hgood.xa.step hgood.xl hbel;have hya:=hgood.ya.step hgood.yl hbel;have hxw:=hgood.xw.step _ hbel;have YS:=hgood.yw.step _ hbel;obtain ⟨VT,VU⟩:=TM hgood.few hxw;have hlx:=(aO _ _).1 hxw;have Gm:=(aO _ _).1 YS;obtain ⟨SL,hlen⟩:=O3 e.x e.y _ hxw YS;have HC:=hid (Fb e.b e.o e.xb e.xo e.yb e.yo e.x.h e.y.h wr VR VS hxa hya hlx.1 Gm.1 VT);obtain ⟨bw,hbw⟩:∃ b,b=e.x.h.wel e.y.h:=⟨_,rfl⟩
   rw [← hbw] at HC SL hlen;have Gi:=hid hgood;have HAT:=hid (hall e (by simp)).2;have tu:=hid SL;have zV:=hid hlen;have HRR:=hid hRR;have mi:=hid hbel;have hpos:(0:Int) < ((d+1:Nat):Int):=by omega
   have hlt2:(d:Int) < ((d+1:Nat):Int):=by omega
   have hnn:(0:Int)≤(d:Int):=by omega
   have hle2:(d:Int)≤(c:Int):=by omega
   obtain ⟨aa,Q5⟩:∃ a,a=CE.ad e:=⟨_,rfl⟩
   have U0:=hid Q5
   change Hid (Calls prog 64 #[.pointer (some (CE.ad e))] wr _) at HC
   rw [← Q5] at c0 HC;clear hO hd hall hbel hRR hgood yJ OM VR VS hxa hya hxw YS hlx Gm SL hlen hbw Q5 VT
   go_wp2_with fail
   refine HC.out.mono ?_
   rintro x w1 ⟨rfl,dd,rfl⟩;have HB1:Hid (Below wr.heap.size wr (wr.drewN dd)):=hid (below_drewN (Below.refl _ _) dd);have wF:=hid (jC mr.out (show (wr.drewN dd).heap[g]?=wr.heap[g]? from HB1.out.block g hgl))
   cases bw
   ·have HR:Hid (R=false):=hid (by rw [HRR.out,List.all_cons,tu.out]; rfl)
    have wH:=hid (mi.out.trans (HB1.out.mono mi.out.size));clear HC mr c0 HI HO;generalize wr.drewN dd=w1 at *
    go_wp2_with fail
    go_ret
    exact ⟨by rw [HR.out]; rfl,wH.out⟩
   have QU:Hid (e.x.ks.length=e.y.ks.length):=hid (zV.out (by first | rfl | trivial));have HZ:Hid (∃ kb off kb' off',(e.x.h.kn=0∨e.x.h.kp=some ⟨kb,off,none⟩∧e.x.h.kn≤e.x.h.kc∧e.y.h.kp=some ⟨kb',off',none⟩∧e.x.h.kn≤e.y.h.kc)∧e.y.h.kn=e.x.h.kn∧e.x.h.kn=e.x.ks.length):=hid (by
    have hlx:=((aO _ _).1 Gi.out.xw).2.1;have Gm:=((aO _ _).1 Gi.out.yw).2.1;have hlen:=QU.out;have e1:=hlx.1;have e2:=Gm.1
    by_cases h0:e.x.h.kn=0
    ·exact ⟨0,0,0,0,.inl h0,by omega,e1⟩
    obtain ⟨b1,o1,p1,q1,_⟩:=hlx.2.resolve_left h0;obtain ⟨b2,o2,p2,q2,_⟩:=Gm.2.resolve_left (by omega);exact ⟨b1,o1,b2,o2,.inr ⟨p1,q1,p2,by omega⟩,by omega,e1⟩)
   obtain ⟨kb,off,kb',off',hkk,hyn,YR⟩:=HZ.out;have HKK:=hid hkk;have HXN:=hid YR;have xg:=mi.out.trans (HB1.out.mono mi.out.size);have yJ:=HAT.out.step HB1.out;have Xp:=hid (EP e.b e.o e.xb e.xo e.yb e.yo e.x.h e.y.h (wr.drewN dd) yJ.2.1 yJ.2.2.1 yJ.2.2.2 (Gi.out.xa.step Gi.out.xl xg) (Gi.out.ya.step Gi.out.yl xg) (Nat.lt_of_lt_of_le Gi.out.xl xg.size) (Nat.lt_of_lt_of_le Gi.out.yl xg.size) kb off kb' off' e.x.h.kn rfl hyn hkk VU)
   change Hid (Calls prog 63 #[.pointer (some (CE.ad e))] (wr.drewN dd) _) at Xp
   rw [← U0.out] at Xp;have wH:=hid xg;have VV:g < (wr.drewN dd).heap.size:=hgl;have hz1:w.heap.size≤(wr.drewN dd).heap.size:=zZ;have pJ:Hid (∀ z ∈ st',z.Good w0∧z.At (wr.drewN dd) g):=hid fun z hz=>⟨(HI.out.1 z (by simp [hz])).1,(HI.out.1 z (by simp [hz])).2.step HB1.out⟩
   clear hkk hyn YR HZ HC mr c0 HI HO yJ xg;generalize wr.drewN dd=w1 at *
   go_wp2_with fail
   refine Xp.out.mono ?_
   rintro x w2 ⟨q,cc,rfl,hr2,hb2⟩;have yB:=hid (jC wF.out (hb2.block g VV));obtain ⟨cb,YT,hkg⟩:=Dl (g:=g) Gi.out wH.out QU.out VV (HKK.out.imp id fun h=>⟨h.1,h.2.2.1⟩) hr2;obtain ⟨kl,hkl⟩:∃ kl,kl=eU kb off kb' off' cb 0 e.x.ks e.y.ks:=⟨_,rfl⟩
   have AB:=hid (show kl.length=e.x.h.kn by rw [hkl,CS _ _ _ _ _ _ _ _ QU.out]; exact HXN.out.symm);obtain ⟨n,hn⟩:∃ n,n=e.x.h.kn:=⟨_,rfl⟩
   rw [← hkl] at hkg;rw [← hn] at YT AB VU ⊢;have HQP:=hid YT;have HAD:Hid (∀ (i:Nat) (e':CE),kl[i]?=some e'→e'.ad=⟨cb,i * 2,none⟩):=hid fun i e' h=>by
    rw [hkl] at h;obtain ⟨k,j,_,_,rfl⟩:=sS _ _ _ _ _ _ _ _ _ _ h
    simp [CE.ad]
   have HB:Hid (szs CE.sz kl+szs CE.sz st'+1≤gk):=hid (by
    have h1:szs CE.sz (e :: st')≤gk:=HS.out;simp only [szs] at h1;have h2:=Dq kb off kb' off' cb e.x.ks e.y.ks 0 QU.out;rw [← hkl] at h2;have h3:e.sz=1+(aB e.x.ks).length:=by unfold CE.sz; rw [cZ,List.length_cons]; omega
    omega)
   have HI2:Hid (Ci w0 R (kl++st') g w2):=hid ⟨fun z hz=>by
    rcases List.mem_append.1 hz with hz | hz
    ·exact hkg z hz
    ·exact ⟨(pJ.out z hz).1,(pJ.out z hz).2.step hb2⟩,wH.out.trans (hb2.mono wH.out.size),by
    rw [HRR.out,List.all_cons,tu.out,List.all_append,Bool.true_and]
    congr 1
    rw [hkl];exact (BV _ _ _ _ _ _ _ _ QU.out).symm⟩
   have hz2:w.heap.size≤w2.heap.size:=Nat.le_trans hz1 hb2.size;have hnd:n+d+1≤gk:=by
    have h1:=HB.out;have h2:=HLEN.out kl;have h3:=HLEN.out st';rw [AB.out] at h2;rw [Gg.out] at h3
    omega
   clear hr2 hb2 YT hkg hkl hn pJ wH wF Xp Gi HAT tu zV QU HRR HKK HXN mi HS;have JV:IntKind.i64.wrap ((n:Int) - 1)=(n:Int) - 1:=IntWalk.i64_in _ (by omega);obtain ⟨G,hG⟩:∃ G,G=gk:=⟨_,rfl⟩
   subst hG;obtain ⟨wo,hwo⟩:∃ wo,wo=wr:=⟨_,rfl⟩
   subst hwo
   go_wp2_with fail
   go_loopg [7,10] n (fun gk v7 v10 wr=>∃ (gr c2:Nat),v10=.int .i64 ((gk:Int) - 1)∧v7=.slice (some ⟨gr,0,none⟩) (n - gk+d) c2∧gk≤n∧Hid (Ci w0 R (kl++st') gr wr)∧Hid (wr.ownsRow w.heap.size 111 1 (.slice (some ⟨gr,0,none⟩) (n - gk+d) c2) (n - gk+d) (ptrs CE.ad (kl.drop gk++st')))∧w.heap.size≤wr.heap.size∧w.heap.size≤gr)
   case atStart=>exact ⟨g,c,rfl,by simp,Nat.le_refl _,HI2,hid (by have:=yB.out; rw [← AB.out,List.drop_length,Nat.sub_self,Nat.zero_add]; exact this),hz2,hgb⟩
   case round =>
    obtain ⟨gr,c2,rfl,rfl,hgn,DK,yC,hzi,acm⟩:=hrel
    cases gk with
    | zero =>
     go_wp2_with fail
     go_roundg (G - 1)
     case rel=>exact ⟨kl++st',gr,c2,n+d,by simp,hid (by rw [List.length_append,AB.out,Gg.out]),hid (by rw [ng]; have:=HB.out; omega),DK,by omega,by omega,by simpa using yC,hzi⟩
     case measure=>omega
    | succ gk =>
     have hlt:gk < kl.length:=by rw [AB.out]; omega
     obtain ⟨rfl,hnc⟩:=HQP.out.resolve_left (by omega);have hr1:(0:Int)≤((gk+1:Nat):Int) - 1:=by omega
     have hgi:((gk+1:Nat):Int) - 1=(gk:Int):=by omega
     have hgi':(gk:Int)+1 - 1=(gk:Int):=by omega
     have JW:IntKind.i64.wrap ((gk:Int) - 1)=(gk:Int) - 1:=IntWalk.i64_in _ (by omega);have h00:(0:Int)≤(gk:Int):=by omega
     have h01:(gk:Int) < (n:Int):=by omega
     obtain ⟨q,hq⟩:∃ q,q=n - (gk+1)+d:=⟨_,rfl⟩
     rw [← hq] at yC ⊢;have hqq:n - gk+d=q+1:=by omega
     have hq1:q≤10000000:=by omega
     obtain ⟨kd,hkd⟩:∃ kd,kl[gk]?=some kd:=⟨_,List.getElem?_eq_getElem hlt⟩
     have VW:=hid (HAD.out gk kd hkd);have DL:=hid hkd;have JX:Hid (∀ g' w',wr.grownBy w' (some gr)→(g'=gr∨wr.heap.size≤g')→Ci w0 R (kl++st') g' w'):=hid fun g' w' h1 h2=>DK.out.move h1 (by have:=HWB.out; omega) h2
     have HQQ:=hid hqq;clear hkd hq hlt DK HQP hqq;rw [hgi]
     go_wp2_with (at_builtin; refine wpList_append_lies _ rfl _ _ 171 rfl w.heap.size 111 i0 _ 1 8 underlying171 hi0 hy0 hy1 hy2 rfl (by omega) _ q _ rfl (World.ownsRow.alloc yC.out _) ⟨wr.heap.size,0,none⟩ 1 1 [.pointer (some ⟨cb,gk * 2,none⟩)] rfl rfl kX (by simp [Value.oneCell']) (by omega) (by unfold maxLen; omega) (by omega) (by simp; omega) (wr.heap.size+1) (by simp) ?_)
     intro g2 c3 w3 hown3 hgrow hgg hlt3;have jS:Hid (w3.ownsRow w.heap.size 111 1 (.slice (some ⟨g2,0,none⟩) (n - gk+d) c3) (n - gk+d) (ptrs CE.ad (kl.drop gk++st'))):=hid (by
      rw [HQQ.out,kV DL.out,List.cons_append,iP,VW.out]; exact hown3)
     have hgrow2:wr.grownBy w3 (some gr):=ae (grown_below ((Below.refl _ _).alloc (Nat.le_refl _) _) _) hgrow;have hgc:g2=gr∨wr.heap.size≤g2:=by
      rcases hgg with h | h
      ·left; simpa [Value.ownBlock] using h.symm
      ·right; omega
     have Q8:=hid (JX.out g2 w3 hgrow2 hgc);have DN:w.heap.size≤w3.heap.size:=by have:=hgrow2.size; omega
     have hg5:w.heap.size≤g2:=by omega
     clear hown3 hgrow hgrow2 hgg JX yC VW DL hgc;rw [← HQQ.out]
     go_wp2_with fail
     go_roundg gk
     case rel=>exact ⟨g2,c3,rfl,rfl,by omega,Q8,jS,DN,hg5⟩
     case measure=>omega
set_option maxHeartbeats 4000000 in
theorem sO (x y:Br) (w:World) (hx:x.Lies w) (hy:y.Lies w) (hf:x.Few) (hn:x.flatB.length≤10000000) :
  Calls prog 26 #[x.h.val,y.h.val] w fun e w'=>e=.returned (.bool (x.alb y))∧Below w.heap.size w w':=by
 have HE:Hid (∀ wS,wS=((w.alloc (.cells #[.int .i64 x.h.k,.int .i64 x.h.m,.int .i64 x.h.f,.int .i64 x.h.t,.slice x.h.np x.h.nn x.h.nc,.slice x.h.kp x.h.kn x.h.kc] 26)).alloc (.cells #[.int .i64 y.h.k,.int .i64 y.h.m,.int .i64 y.h.f,.int .i64 y.h.t,.slice y.h.np y.h.nn y.h.nc,.slice y.h.kp y.h.kn y.h.kc] 26)).alloc (.cells #[.pointer (some ⟨w.heap.size,0,none⟩),.pointer (some ⟨w.heap.size+1,0,none⟩)] 110) →
   Calls prog 62 #[.pointer (some ⟨w.heap.size+1+1,0,none⟩),.func (.func 63) #[] #[],.func (.func 64) #[] #[]] wS fun e w'=>e=.returned (.bool (x.alb y))∧Below w.heap.size w w'):=hid fun wS hS=>by
  obtain ⟨w1,h1⟩:∃ w1,w1=w.alloc (.cells #[.int .i64 x.h.k,.int .i64 x.h.m,.int .i64 x.h.f,.int .i64 x.h.t,.slice x.h.np x.h.nn x.h.nc,.slice x.h.kp x.h.kn x.h.kc] 26):=⟨_,rfl⟩
  rw [← h1] at hS;obtain ⟨w0,h0⟩:∃ w0,w0=w1.alloc (.cells #[.int .i64 y.h.k,.int .i64 y.h.m,.int .i64 y.h.f,.int .i64 y.h.t,.slice y.h.np y.h.nn y.h.nc,.slice y.h.kp y.h.kn y.h.kc] 26):=⟨_,rfl⟩
  rw [← h0] at hS;have hz1:w1.heap.size=w.heap.size+1:=by rw [h1]; simp
  have hz0:w0.heap.size=w.heap.size+2:=by rw [h0]; simp [hz1]
  have hzS:wS.heap.size=w.heap.size+3:=by rw [hS]; simp [hz0]
  have b1:Below w.heap.size w w1:=by rw [h1]; exact (Below.refl _ _).alloc (Nat.le_refl _) _
  have b0:Below w1.heap.size w1 w0:=by rw [h0]; exact (Below.refl _ _).alloc (Nat.le_refl _) _
  have bS:Below w0.heap.size w0 wS:=by rw [hS]; exact (Below.refl _ _).alloc (Nat.le_refl _) _
  have b10:Below w.heap.size w w0:=b1.trans (b0.mono (by omega));have cx:bP w1 w.heap.size 0 x.h:=by rw [h1]; exact gX w x.h 26
  have cy:bP w0 w1.heap.size 0 y.h:=by rw [h0]; exact gX w1 y.h 26
  have hc:=cell_of_heap (heap_alloc_new w0 (.cells #[.pointer (some ⟨w.heap.size,0,none⟩),.pointer (some ⟨w.heap.size+1,0,none⟩)] 110));rw [← hS,hz0] at hc;have hg:CE.Good w0 ⟨x,y,w.heap.size,0,w.heap.size+1,0,w.heap.size+2,0⟩:=⟨by simp only; omega,by simp only; omega,cx.step (by omega) b0,by rw [hz1] at cy; exact cy,hx.step _ b10,hy.step _ b10,hf⟩;refine (FN ⟨x,y,w.heap.size,0,w.heap.size+1,0,w.heap.size+2,0⟩ w0 wS hg bS ⟨by simp only; omega,by simp only; omega,(hc 0).trans rfl,(hc 1).trans rfl⟩ hn).mono ?_
  rintro e w' ⟨rfl,hb⟩;exact ⟨rfl,b10.trans (hb.mono (by omega))⟩
 obtain ⟨R,hR⟩:∃ R,R=x.alb y:=⟨_,rfl⟩
 rw [← hR] at HE ⊢;clear hx hy hf hn hR;have hmf:∀ (fn:Fn) (first cap:Array Value) (w:World),(Instr.makeFunc fn first cap).run prog w=.ok (.func fn first cap) w:=fun _ _ _ _=>rfl
 show Calls prog 26 #[.agg #[.int .i64 x.h.k,.int .i64 x.h.m,.int .i64 x.h.f,.int .i64 x.h.t,.slice x.h.np x.h.nn x.h.nc,.slice x.h.kp x.h.kn x.h.kc],.agg #[.int .i64 y.h.k,.int .i64 y.h.m,.int .i64 y.h.f,.int .i64 y.h.t,.slice y.h.np y.h.nn y.h.nc,.slice y.h.kp y.h.kn y.h.kc]] w _
 go_enter func26,ntmps26
 go_wp2_with fail
 refine (HE.out _ rfl).mono ?_
 rintro e w' ⟨rfl,hb⟩;have HB:=hid hb;clear hb HE
 go_wp2_with fail
 go_ret
 exact ⟨rfl,HB.out⟩
end Go.Proofs.YtmpmfamiegpmgaaGreatDoor
