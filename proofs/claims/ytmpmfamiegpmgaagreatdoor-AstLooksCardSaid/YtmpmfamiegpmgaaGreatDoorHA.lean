/-
  The document's Alike: of two nodes that are alike it tells true.; unit.refused: which files make no unit, whatever stands in them.; A unit as it lies, and its looks: all, partOf, Text.; Contracts of the library, laid.; show.Names: the bytes of occurrences.; unit's Occs and Names: all occurrences, and their bytes.
-/
import Derived.Test.YtmpmfamiegpmgaaGreatDoorGT
import Derived.Deep.RegionHeld3
import Derived.Test.YtmpmfamiegpmgaaGreatDoorGA
import Derived.OwnWalk
import Derived.Maps.Ext
import Derived.Maps.OwnSet
import Derived.Maps.OwnOps
import Derived.Deep.MidRow
import Derived.Test.YtmpmfamiegpmgaaGreatDoorGF
import Derived.Shelf.Strconv.Clone
import Derived.Ground.Names2Prog
import Derived.Test.YtmpmfamiegpmgaaGreatDoorProg
import Derived.Laws.MakeOwn
import Derived.Test.YtmpmfamiegpmgaaGreatDoorGV
import Derived.Deep.Cut
namespace Go.Proofs.YtmpmfamiegpmgaaGreatDoor
open Tryz
open Go.Lib (hid)
open Go.RowKit
set_option maxRecDepth 20000
set_option linter.unusedVariables false
set_option linter.unusedSimpArgs false
def iH (a b:List Int):Bool:=a == b
theorem xQ {a b:List Int} (h:a.length≠b.length):iH a b=false:=by
 unfold iH; rw [beq_eq_false_iff_ne]; intro e; exact h (by rw [e])
theorem CP {a b:List Int} {k:Nat} (h1:k < a.length) (h2:k < b.length) (h:a[k]≠b[k]):iH a b=false:=by
 unfold iH; rw [beq_eq_false_iff_ne]; intro e; subst e; exact h rfl
theorem oQ {a b:List Int} (h:a.length=b.length) (hall:∀ i (h1:i < a.length) (h2:i < b.length),a[i]=b[i]):iH a b=true:=by
 unfold iH; rw [beq_iff_eq]; exact List.ext_getElem h hall
set_option maxHeartbeats 1000000 in
theorem uO (p:Option Addr) (n c:Nat) (l:List Int) (p':Option Addr) (n' c':Nat) (l':List Int) (w:World) (h:InV mkI w p n c l) (h':InV mkI w p' n' c' l') (hn:n≤17592186044416) :
  Calls prog 56 #[.slice p n c,.slice p' n' c'] w fun e w'=>e=.returned (.bool (iH l l'))∧Below w.heap.size w w':=by
 by_cases hln:n=n'
 ·subst hln
  have hl:=h.1;have hl':=h'.1;have HA:=hid h;have HA':=hid h';have HL:=hid hl;have HL':=hid hl';clear h h' hl hl';have hnz:(0:Int)≤(n:Int):=by omega
  go_enter func56,ntmps56
  go_wp2_with fail
  go_loopw [5] (fun i wr=>∃ k:Nat,k≤n∧i=.int .i64 k∧Hid (∀ i (h1:i < l.length) (h2:i < l'.length),i < k→l[i]=l'[i])∧∃ m,wr=w.drewN m) (fun i _=>n - (intOf i).toNat)
  case atStart=>exact ⟨0,by omega,rfl,hid (fun i _ _ h=>by omega),0,rfl⟩
  case round =>
   obtain ⟨k,hk,rfl,HE,m,rfl⟩:=hrel
   by_cases hlt:k < n
   ·obtain ⟨b,off,rfl,hc1,hb,hat⟩:=HA.out.2.resolve_left (by omega)
    obtain ⟨b',off',rfl,hc1',hb',hat'⟩:=HA'.out.2.resolve_left (by omega);have hkl:k < l.length:=by rw [← HL.out]; exact hlt
    have hkl':k < l'.length:=by rw [← HL'.out]; exact hlt
    have c0:w.cell? ⟨b,off+k,none⟩=some (.int .i64 l[k]):=hat k hkl;have c1:w.cell? ⟨b',off'+k,none⟩=some (.int .i64 l'[k]):=hat' k hkl';have hk1:(0:Int)≤(k:Int):=by omega
    have hk2:(k:Int) < (n:Int):=by omega
    by_cases heq:l[k]=l'[k]
    ·have HE2:Hid (∀ i (h1:i < l.length) (h2:i < l'.length),i < k+1→l[i]=l'[i]):=hid fun i h1 h2 hi=>by
      rcases Nat.lt_or_ge i k with h3 | h3
      ·exact HE.out i h1 h2 h3
      ·obtain rfl:i=k:=by omega
       exact heq
     rw [← heq] at c1;clear heq hat hat';generalize l[k]=t at *
     go_wp2
     go_quiet (fail)
     go_wp2
     go_roundw
     case rel=>exact ⟨k+1,by omega,by go_num,HE2,_,rfl⟩
     case measure=>simp [intOf]; omega
    ·have HR:=hid (CP hkl hkl' heq)
     clear hat hat';have hne:(l[k] == l'[k])=false:=by rw [beq_eq_false_iff_ne]; exact heq
     generalize l[k]=t at *;generalize l'[k]=t' at *
     go_wp2
     go_quiet (fail)
     go_wp2
     go_ret
     exact ⟨aK HR.out.symm,below_drewN (below_drewN (Below.refl _ _) _) _⟩
   ·have HR:Hid (iH l l'=true):=hid (oQ (by rw [← HL.out,← HL'.out]) fun i h1 h2=>HE.out i h1 h2 (by rw [← HL.out] at h1; omega))
    go_wp2
    go_ret
    exact ⟨aK HR.out.symm,below_drewN (Below.refl _ _) _⟩
 ·have HR:Hid (iH l l'=false):=hid (xQ (by rw [← h.1,← h'.1]; exact hln))
  have hne:((n:Int) == (n':Int))=false:=by rw [beq_eq_false_iff_ne]; omega
  clear h h'
  go_enter func56,ntmps56
  go_wp2
  go_ret
  exact ⟨aK HR.out.symm,Below.refl _ _⟩
mutual
def Br.Alk (pl:Bool):Br→Br→Prop
 | .mk h ks,b=>h.k=b.h.k∧h.m=b.h.m∧h.ns=b.h.ns∧(pl=true→h.f=b.h.f∧h.t=b.h.t)∧NR pl ks b.ks
def NR (pl:Bool):List Br→List Br→Prop
 | [],l=>l=[]
 | x :: r,l=>∃ y s,l=y :: s∧x.Alk pl y∧NR pl r s
end
theorem Dw (pl:Bool) (ks:List Br):∀ js:List Br,NR pl ks js ↔ ks.length=js.length∧∀ i (h1:i < ks.length) (h2:i < js.length),ks[i].Alk pl js[i]:=by
 induction ks with
 | nil=>intro js; cases js <;> simp [NR]
 | cons x r ih =>
  intro js;simp only [NR]
  constructor
  ·rintro ⟨y,s,rfl,h1,h2⟩
   obtain ⟨h3,h4⟩:=(ih s).1 h2;refine ⟨by simp [h3],fun i a b=>?_⟩
   cases i with
   | zero=>exact h1
   | succ i=>exact h4 i (by simpa using a) (by simpa using b)
  ·rintro ⟨h1,h2⟩
   cases js with
   | nil=>simp at h1
   | cons y s =>
    refine ⟨y,s,rfl,h2 0 (by simp) (by simp),(ih s).2 ⟨by simpa using h1,fun i a b=>h2 (i+1) (by simpa using a) (by simpa using b)⟩⟩
set_option maxHeartbeats 4000000 in
theorem BN (pl:Bool) (a:Br):∀ (b:Br) (w:World),a.Lies w→b.Lies w→a.Few→a.Alk pl b →
  Calls prog 19 #[a.h.val,b.h.val,.bool pl] w fun e w'=>e=.returned (.bool true)∧Below w.heap.size w w':=by
 induction a using Br.ind with
 | hP h ks ih =>
  intro b w hl hl' hfit VD;have b1:Below w.heap.size w (w.alloc (.cells #[.int .i64 h.k,.int .i64 h.m,.int .i64 h.f,.int .i64 h.t,.slice h.np h.nn h.nc,.slice h.kp h.kn h.kc] 26)):=(Below.refl _ _).alloc (Nat.le_refl _) _;have c1:=gX w h 26;obtain ⟨w1,e1⟩:∃ w1,w1=w.alloc (.cells #[.int .i64 h.k,.int .i64 h.m,.int .i64 h.f,.int .i64 h.t,.slice h.np h.nn h.nc,.slice h.kp h.kn h.kc] 26):=⟨_,rfl⟩
  have s1:w1.heap.size=w.heap.size+1:=by rw [e1]; simp
  have c1:bP w1 w.heap.size 0 h:=by rw [e1]; exact c1
  rw [← e1] at b1;have l1:=hl.step _ b1;have hl2:=hl'.step _ b1;obtain ⟨g,js⟩:=b;have b2:Below w1.heap.size w1 (w1.alloc (.cells #[.int .i64 g.k,.int .i64 g.m,.int .i64 g.f,.int .i64 g.t,.slice g.np g.nn g.nc,.slice g.kp g.kn g.kc] 26)):=(Below.refl _ _).alloc (Nat.le_refl _) _;have c2:=gX w1 g 26;obtain ⟨w2,e2⟩:∃ w2,w2=w1.alloc (.cells #[.int .i64 g.k,.int .i64 g.m,.int .i64 g.f,.int .i64 g.t,.slice g.np g.nn g.nc,.slice g.kp g.kn g.kc] 26):=⟨_,rfl⟩
  have s2:w2.heap.size=w1.heap.size+1:=by rw [e2]; simp
  have c2:bP w2 w1.heap.size 0 g:=by rw [e2]; exact c2
  rw [← e2] at b2;have l2:=hl2.step _ b2;have c1:=c1.step (by omega) b2;have l1:=l1.step _ b2;have b12:=b1.trans (b2.mono (by omega));obtain ⟨jW,hkids,hall⟩:=(aO _ _).1 l1;obtain ⟨hnames',hkids',hall'⟩:=(aO _ _).1 l2;simp only [Br.Few,fM] at hfit;simp only [Br.Alk,Br.h,Br.ks] at VD;simp only [Br.h,Br.ks] at jW hkids hall hnames' hkids' hall' c1 c2 e1 e2 ⊢;obtain ⟨hk,hm,hf,ht,np,nn,nc,ns,kp,kn,kc⟩:=h;obtain ⟨gk,gm,gf,gt,np',nn',nc',ns',kp',kn',kc'⟩:=g;obtain ⟨Au,hlen,Aw⟩:=hfit;obtain ⟨q1,q2,q3,q4,q5⟩:=VD
  simp only at q1 q2 q3 q4
  subst q1 q2 q3;rw [Dw] at q5;obtain ⟨hlj,hak⟩:=q5;have hkn:kn=ks.length:=hkids.1;have hkn':kn'=ks.length:=by rw [hlj]; exact hkids'.1
  subst hkn;subst hkn'
  simp only at Au jW hnames' hkids hkids'
  have HI1:=hid (uO np nn nc ns np' nn' nc' ns w2 jW hnames' (by have:=jW.1; omega));rw [show iH ns ns=true from oQ rfl (fun _ _ _=>rfl)] at HI1;have HK:=hid hkids;have HK':=hid hkids';have HL:=hid hall;have HL':=hid hall';have HI:=hid ih;have HF2:=hid Aw;have HB:=hid b12;have Og:=hid c1;have HC2:=hid c2;have S1:=hid s1;have S2:=hid s2;have E2:=hid e2;have Xn:=hid hak;have SC:=hid hlj;subst e1;clear jW hnames' hkids hkids' hall hall' ih Aw b12 c1 c2 l1 l2 b1 b2 hl hl2 hl' Au s1 s2 e2 hak hlj
  cases pl
  ·clear q4
   go_enter func19,ntmps19
   go_wp2_with fail
   rw [← E2.out];refine HI1.out.mono ?_
   rintro e w3 ⟨rfl,hb3⟩;have HB3:=hid hb3;have hs2:=HB.out.size;have hz3:=hb3.size;have hz1:=S1.out;have hz2:=S2.out;obtain ⟨_,_,a2,a3,_,a5⟩:=(Og.out.step (by omega) hb3).box;obtain ⟨_,_,d2,d3,_,d5⟩:=(HC2.out.step (by omega) hb3).box;rw [hz1] at d5 d2 d3;clear hb3
   go_wp2_with fail
   go_loopw [7] (fun iv wr=>∃ i:Nat,i≤ks.length∧iv=.int .i64 i∧Hid (Below w3.heap.size w3 wr)) (fun iv _=>ks.length - (intOf iv).toNat)
   case atStart=>exact ⟨0,by omega,rfl,hid (Below.refl _ _)⟩
   case round =>
    obtain ⟨i,hi,rfl,mi⟩:=hrel;have hbe:=mi.out;have t5:=(hbe.cell (p:=⟨w.heap.size,_,none⟩) (by show w.heap.size < w3.heap.size; omega)).trans a5;have u5:=(hbe.cell (p:=⟨w.heap.size+1,_,none⟩) (by show w.heap.size+1 < w3.heap.size; omega)).trans d5;have hz:=hbe.size;clear a2 a3 d2 d3
    by_cases hlt:i < ks.length
    ·have hlt':i < js.length:=by rw [← SC.out]; exact hlt
     have nO:=HB3.out.trans (hbe.mono hz3);obtain ⟨bx,ox,rfl,_,hbx,ui⟩:=(HK.out.step nO).2.resolve_left (by omega);obtain ⟨bY,oY,rfl,_,Gn,Az⟩:=(HK'.out.step nO).2.resolve_left (by omega);obtain ⟨x0,x1,x2,x3,x4,x5⟩:=ui i hlt;obtain ⟨y0,y1,y2,y3,y4,y5⟩:=Az i hlt';have hmem:=List.getElem_mem hlt;have hmem':=List.getElem_mem hlt';have HX:=hid (HI.out ks[i] hmem js[i] wr.drew (((HL.out _ hmem).step _ nO).step _ (Below.refl _ _).drew) (((HL'.out _ hmem').step _ nO).step _ (Below.refl _ _).drew) (HF2.out _ hmem) (Xn.out i hlt hlt'));have hr1:(0:Int)≤(i:Int):=by omega
     have hr2:(i:Int) < (ks.length:Int):=by omega
     have hwn:w.heap.size < wr.heap.size:=by omega
     have SE:w.heap.size+1 < wr.heap.size:=by omega
     clear ui Az hmem hmem' hbe nO a5 d5 HK HK' HL HL' HI HF2 HI1 Og HC2 S1 S2 E2 Xn SC;generalize ks[i]=x at *;generalize js[i]=y at *
     go_wp2_with fail
     go_region_held3 (fun w'=>w'.cell? ⟨w.heap.size,5,none⟩=some (.slice (some ⟨bx,ox,none⟩) ks.length kc)∧w'.cell? ⟨w.heap.size+1,5,none⟩=some (.slice (some ⟨bY,oY,none⟩) ks.length kc')∧w'.cell? ⟨bx,ox+i * 6,none⟩=some (.int .i64 x.h.k)∧w'.cell? ⟨bx,ox+i * 6+1,none⟩=some (.int .i64 x.h.m)∧w'.cell? ⟨bx,ox+i * 6+2,none⟩=some (.int .i64 x.h.f)∧w'.cell? ⟨bx,ox+i * 6+3,none⟩=some (.int .i64 x.h.t)∧w'.cell? ⟨bx,ox+i * 6+4,none⟩=some (.slice x.h.np x.h.nn x.h.nc)∧w'.cell? ⟨bx,ox+i * 6+5,none⟩=some (.slice x.h.kp x.h.kn x.h.kc)∧w'.cell? ⟨bY,oY+i * 6,none⟩=some (.int .i64 y.h.k)∧w'.cell? ⟨bY,oY+i * 6+1,none⟩=some (.int .i64 y.h.m)∧w'.cell? ⟨bY,oY+i * 6+2,none⟩=some (.int .i64 y.h.f)∧w'.cell? ⟨bY,oY+i * 6+3,none⟩=some (.int .i64 y.h.t)∧w'.cell? ⟨bY,oY+i * 6+4,none⟩=some (.slice y.h.np y.h.nn y.h.nc)∧w'.cell? ⟨bY,oY+i * 6+5,none⟩=some (.slice y.h.kp y.h.kn y.h.kc)) (go_keep) ((first | (go_at_call 19; refine HX.out.mono ?_; rintro e w4 ⟨rfl,hb4⟩; have z0:=(hb4.cell (p:=⟨w.heap.size,_,none⟩) hwn).trans t5; have z1:=(hb4.cell (p:=⟨w.heap.size+1,_,none⟩) SE).trans u5; have z2:=(hb4.cell (p:=⟨bx,_,none⟩) hbx).trans x0; have z3:=(hb4.cell (p:=⟨bx,_,none⟩) hbx).trans x1; have z4:=(hb4.cell (p:=⟨bx,_,none⟩) hbx).trans x2; have z5:=(hb4.cell (p:=⟨bx,_,none⟩) hbx).trans x3; have z6:=(hb4.cell (p:=⟨bx,_,none⟩) hbx).trans x4; have z7:=(hb4.cell (p:=⟨bx,_,none⟩) hbx).trans x5; have z8:=(hb4.cell (p:=⟨bY,_,none⟩) Gn).trans y0; have z9:=(hb4.cell (p:=⟨bY,_,none⟩) Gn).trans y1; have z10:=(hb4.cell (p:=⟨bY,_,none⟩) Gn).trans y2; have z11:=(hb4.cell (p:=⟨bY,_,none⟩) Gn).trans y3; have z12:=(hb4.cell (p:=⟨bY,_,none⟩) Gn).trans y4; have z13:=(hb4.cell (p:=⟨bY,_,none⟩) Gn).trans y5)))
     have hb4':Below wr.heap.size wr w4:=((Below.refl _ _).drew).trans hb4;have HB4:=hid (mi.out.trans (hb4'.mono hz));clear hb4 hb4'
     go_wp2_with fail
     go_roundw
     case rel=>exact ⟨i+1,by omega,by go_num,HB4⟩
     case measure=>simp [intOf]; omega
    ·have kN:=hid (HB.out.trans ((HB3.out.trans (hbe.mono hz3)).mono HB.out.size))
     clear hbe
     go_wp2_with fail
     go_ret
     exact ⟨by first | trivial | rfl,kN.out⟩
  ·obtain ⟨q6,q7⟩:=q4 rfl
   subst q6 q7;clear q4
   go_enter func19,ntmps19
   go_wp2_with fail
   rw [← E2.out];refine HI1.out.mono ?_
   rintro e w3 ⟨rfl,hb3⟩;have HB3:=hid hb3;have hs2:=HB.out.size;have hz3:=hb3.size;have hz1:=S1.out;have hz2:=S2.out;obtain ⟨_,_,a2,a3,_,a5⟩:=(Og.out.step (by omega) hb3).box;obtain ⟨_,_,d2,d3,_,d5⟩:=(HC2.out.step (by omega) hb3).box;rw [hz1] at d5 d2 d3;clear hb3
   go_wp2_with fail
   go_loopw [7] (fun iv wr=>∃ i:Nat,i≤ks.length∧iv=.int .i64 i∧Hid (Below w3.heap.size w3 wr)) (fun iv _=>ks.length - (intOf iv).toNat)
   case atStart=>exact ⟨0,by omega,rfl,hid (Below.refl _ _)⟩
   case round =>
    obtain ⟨i,hi,rfl,mi⟩:=hrel;have hbe:=mi.out;have t5:=(hbe.cell (p:=⟨w.heap.size,_,none⟩) (by show w.heap.size < w3.heap.size; omega)).trans a5;have u5:=(hbe.cell (p:=⟨w.heap.size+1,_,none⟩) (by show w.heap.size+1 < w3.heap.size; omega)).trans d5;have hz:=hbe.size;clear a2 a3 d2 d3
    by_cases hlt:i < ks.length
    ·have hlt':i < js.length:=by rw [← SC.out]; exact hlt
     have nO:=HB3.out.trans (hbe.mono hz3);obtain ⟨bx,ox,rfl,_,hbx,ui⟩:=(HK.out.step nO).2.resolve_left (by omega);obtain ⟨bY,oY,rfl,_,Gn,Az⟩:=(HK'.out.step nO).2.resolve_left (by omega);obtain ⟨x0,x1,x2,x3,x4,x5⟩:=ui i hlt;obtain ⟨y0,y1,y2,y3,y4,y5⟩:=Az i hlt';have hmem:=List.getElem_mem hlt;have hmem':=List.getElem_mem hlt';have HX:=hid (HI.out ks[i] hmem js[i] wr.drew (((HL.out _ hmem).step _ nO).step _ (Below.refl _ _).drew) (((HL'.out _ hmem').step _ nO).step _ (Below.refl _ _).drew) (HF2.out _ hmem) (Xn.out i hlt hlt'));have hr1:(0:Int)≤(i:Int):=by omega
     have hr2:(i:Int) < (ks.length:Int):=by omega
     have hwn:w.heap.size < wr.heap.size:=by omega
     have SE:w.heap.size+1 < wr.heap.size:=by omega
     clear ui Az hmem hmem' hbe nO a5 d5 HK HK' HL HL' HI HF2 HI1 Og HC2 S1 S2 E2 Xn SC;generalize ks[i]=x at *;generalize js[i]=y at *
     go_wp2_with fail
     go_region_held3 (fun w'=>w'.cell? ⟨w.heap.size,5,none⟩=some (.slice (some ⟨bx,ox,none⟩) ks.length kc)∧w'.cell? ⟨w.heap.size+1,5,none⟩=some (.slice (some ⟨bY,oY,none⟩) ks.length kc')∧w'.cell? ⟨bx,ox+i * 6,none⟩=some (.int .i64 x.h.k)∧w'.cell? ⟨bx,ox+i * 6+1,none⟩=some (.int .i64 x.h.m)∧w'.cell? ⟨bx,ox+i * 6+2,none⟩=some (.int .i64 x.h.f)∧w'.cell? ⟨bx,ox+i * 6+3,none⟩=some (.int .i64 x.h.t)∧w'.cell? ⟨bx,ox+i * 6+4,none⟩=some (.slice x.h.np x.h.nn x.h.nc)∧w'.cell? ⟨bx,ox+i * 6+5,none⟩=some (.slice x.h.kp x.h.kn x.h.kc)∧w'.cell? ⟨bY,oY+i * 6,none⟩=some (.int .i64 y.h.k)∧w'.cell? ⟨bY,oY+i * 6+1,none⟩=some (.int .i64 y.h.m)∧w'.cell? ⟨bY,oY+i * 6+2,none⟩=some (.int .i64 y.h.f)∧w'.cell? ⟨bY,oY+i * 6+3,none⟩=some (.int .i64 y.h.t)∧w'.cell? ⟨bY,oY+i * 6+4,none⟩=some (.slice y.h.np y.h.nn y.h.nc)∧w'.cell? ⟨bY,oY+i * 6+5,none⟩=some (.slice y.h.kp y.h.kn y.h.kc)) (go_keep) ((first | (go_at_call 19; refine HX.out.mono ?_; rintro e w4 ⟨rfl,hb4⟩; have z0:=(hb4.cell (p:=⟨w.heap.size,_,none⟩) hwn).trans t5; have z1:=(hb4.cell (p:=⟨w.heap.size+1,_,none⟩) SE).trans u5; have z2:=(hb4.cell (p:=⟨bx,_,none⟩) hbx).trans x0; have z3:=(hb4.cell (p:=⟨bx,_,none⟩) hbx).trans x1; have z4:=(hb4.cell (p:=⟨bx,_,none⟩) hbx).trans x2; have z5:=(hb4.cell (p:=⟨bx,_,none⟩) hbx).trans x3; have z6:=(hb4.cell (p:=⟨bx,_,none⟩) hbx).trans x4; have z7:=(hb4.cell (p:=⟨bx,_,none⟩) hbx).trans x5; have z8:=(hb4.cell (p:=⟨bY,_,none⟩) Gn).trans y0; have z9:=(hb4.cell (p:=⟨bY,_,none⟩) Gn).trans y1; have z10:=(hb4.cell (p:=⟨bY,_,none⟩) Gn).trans y2; have z11:=(hb4.cell (p:=⟨bY,_,none⟩) Gn).trans y3; have z12:=(hb4.cell (p:=⟨bY,_,none⟩) Gn).trans y4; have z13:=(hb4.cell (p:=⟨bY,_,none⟩) Gn).trans y5)))
     have hb4':Below wr.heap.size wr w4:=((Below.refl _ _).drew).trans hb4;have HB4:=hid (mi.out.trans (hb4'.mono hz));clear hb4 hb4'
     go_wp2_with fail
     go_roundw
     case rel=>exact ⟨i+1,by omega,by go_num,HB4⟩
     case measure=>simp [intOf]; omega
    ·have kN:=hid (HB.out.trans ((HB3.out.trans (hbe.mono hz3)).mono HB.out.size))
     clear hbe
     go_wp2_with fail
     go_ret
     exact ⟨by first | trivial | rfl,kN.out⟩
open Go.RowKit Go.Maps
abbrev xP:=ByteArray × ByteArray
def FAt (w:World) (b o:Nat) (f:xP):Prop:=w.cell? ⟨b,o,none⟩=some (.string f.1)∧w.cell? ⟨b,o+1,none⟩=some (.string f.2)
def sumT (l:List xP):Nat:=(l.map fun f=>f.2.size).sum
def ZY (s:ByteArray):Lit:=.string s.data.toList
structure Bears (w:World) (mb:Nat) (l:List ByteArray):Prop where
 ex:∃ (D:DataW Unit) (n:Nat),w.ownsMap prog 9 (plainElem prog 3) mb n D∧n≤l.length∧∀ x:ByteArray,Maps.has D (ZY x)=true ↔ x ∈ l
def ZJ (fs:List xP) (t:Nat) (k f:Int):Prop :=
 (1000 < fs.length∧k=5∧f=1000)∨(fs.length≤1000∧t < fs.length∧k=11∧f=t)∨(fs.length≤1000∧t=fs.length∧k=0∧f=0)
structure Xv (l:List ByteArray) (t:Nat):Prop where
 le:t≤l.length
 nd:(l.take t).Nodup
 tw:t < l.length→∃ x,l[t]?=some x∧x ∈ l.take t
def Xw (w:World) (fs:List xP) (t:Nat) (e:Ending) (w':World):Prop:=∃ k f,ZJ fs t k f∧e=.returned (.agg #[.int .i64 k,.int .i64 f,.int .i64 0])∧Below w.heap.size w w'
def FIn (w:World) (p:Option Addr) (n cap:Nat) (fs:List xP):Prop:=n=fs.length∧(n=0∨∃ b o,p=some ⟨b,o,none⟩∧n≤cap∧b < w.heap.size∧∀ i f,fs[i]?=some f→FAt w b (o+i * 2) f)
structure PC where
 f:xP
 h:Hd
 first:Int
 oa:Nat
 m:Nat
def PC.cells (p:PC):List Value:=[.string p.f.1,.string p.f.2,.int .i64 p.h.k,.int .i64 p.h.m,.int .i64 p.h.f,.int .i64 p.h.t,.slice p.h.np p.h.nn p.h.nc,.slice p.h.kp p.h.kn p.h.kc,.int .i64 p.first,.slice (some ⟨p.oa,0,none⟩) p.m p.m]
structure ZK (W:World) (b o:Nat) (p:PC):Prop where
 c0:W.cell? ⟨b,o,none⟩=some (.string p.f.1)
 c1:W.cell? ⟨b,o+1,none⟩=some (.string p.f.2)
 c2:W.cell? ⟨b,o+2,none⟩=some (.int .i64 p.h.k)
 c3:W.cell? ⟨b,o+3,none⟩=some (.int .i64 p.h.m)
 c4:W.cell? ⟨b,o+4,none⟩=some (.int .i64 p.h.f)
 c5:W.cell? ⟨b,o+5,none⟩=some (.int .i64 p.h.t)
 c6:W.cell? ⟨b,o+6,none⟩=some (.slice p.h.np p.h.nn p.h.nc)
 c7:W.cell? ⟨b,o+7,none⟩=some (.slice p.h.kp p.h.kn p.h.kc)
 c8:W.cell? ⟨b,o+8,none⟩=some (.int .i64 p.first)
 c9:W.cell? ⟨b,o+9,none⟩=some (.slice (some ⟨p.oa,0,none⟩) p.m p.m)
abbrev PC.val (p:PC):Value:=.agg #[.string p.f.1,.string p.f.2,.int .i64 p.h.k,.int .i64 p.h.m,.int .i64 p.h.f,.int .i64 p.h.t,.slice p.h.np p.h.nn p.h.nc,.slice p.h.kp p.h.kn p.h.kc,.int .i64 p.first,.slice (some ⟨p.oa,0,none⟩) p.m p.m]
structure UAt (W:World) (pu gp:Nat) (ps:List PC):Prop where
 u:W.cell? ⟨pu,0,none⟩=some (.slice (some ⟨gp,0,none⟩) ps.length ps.length)
 pl:pu < W.heap.size
 gl:gp < W.heap.size
 part:∀ i p,ps[i]?=some p→ZK W gp (i * 10) p
abbrev aa3:Value:=.agg #[.string ⟨#[]⟩,.string ⟨#[]⟩,.int .i64 0,.int .i64 0,.int .i64 0,.int .i64 0,.slice none 0 0,.slice none 0 0,.int .i64 0,.slice none 0 0]
end Go.Proofs.YtmpmfamiegpmgaaGreatDoor
namespace Go.Proofs
open Go.Shelf
def Tryz.laysM316_ren:Go.Shelf.Ren:=⟨fun | 316=>116 | n=>n,fun | 9=>9 | 3=>3 | 4=>4 | 37=>139 | 0=>0 | 127=>231 | 5=>5 | n=>n,fun | n=>n⟩
end Go.Proofs
namespace Go.Proofs.YtmpmfamiegpmgaaGreatDoor
open Tryz
open Go.Lib (hid)
open Go.RowKit
set_option maxRecDepth 20000
set_option linter.unusedVariables false
set_option linter.unusedSimpArgs false
structure aa2 (W:World) (g m:Nat) (t:Nat→ByteArray):Prop where
 lt:g < W.heap.size
 at_:∀ i,i < m→W.cell? ⟨g,i,none⟩=some (.string (t i))∧W.frozen? ⟨g,i,none⟩=false
def aa5 (s:ByteArray) (a e:Int):ByteArray:=bif decide (0≤a) && decide (a≤e) && decide (e≤(s.size:Int)) then s.extract a.toNat e.toNat else ⟨#[]⟩
def ZV (l:List oZ):List Value:=l.flatMap oZ.cells
structure PV where
 pc:PC
 os:List oZ
structure acR (W:World) (q:PV):Prop where
 m:q.pc.m=q.os.length
 lt:q.pc.oa < W.heap.size
 at_:∀ j v,q.os[j]?=some v→gq W q.pc.oa (j * 5) v
def aaY (qs:List PV):List oZ:=qs.flatMap (·.os)
end Go.Proofs.YtmpmfamiegpmgaaGreatDoor
