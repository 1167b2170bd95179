/-
  The document's Alike: of two nodes that are alike it tells true.; unit.refused: which files make no unit, whatever stands in them.; A unit as it lies, and its looks: all, partOf, Text.; Contracts of the library, laid.; show.Names: the bytes of occurrences.; unit's Occs and Names: all occurrences, and their bytes.; A unit that is being loaded: what stands while its parts are filled in.; unit.Load, out of what is said of one file.; What Load finds in each file, by ast.File.; A file with bytes ahead that say nothing: the same node, the same occurrences, each so many bytes on.
-/
import Derived.Test.YtmpmfamiegpmgaaGreatDoorGT
import Derived.Deep.RegionHeld3
import Derived.Test.YtmpmfamiegpmgaaGreatDoorGA
import Derived.OwnWalk
import Derived.Maps.Ext
import Derived.Maps.OwnSet
import Derived.Maps.OwnOps
import Derived.Deep.MidRow
import Derived.Test.YtmpmfamiegpmgaaGreatDoorGF
import Derived.Shelf.Strconv.Clone
import Derived.Ground.Names2Prog
import Derived.Test.YtmpmfamiegpmgaaGreatDoorProg
import Derived.Laws.MakeOwn
import Derived.Test.YtmpmfamiegpmgaaGreatDoorGV
import Derived.Deep.Cut
import Derived.StillTailTactics
import Derived.Test.YtmpmfamiegpmgaaGreatDoorGAA
import Derived.Test.YtmpmfamiegpmgaaGreatDoorGHC
import Derived.Test.YtmpmfamiegpmgaaGreatDoorGZ
namespace Go.Proofs.YtmpmfamiegpmgaaGreatDoor
open Tryz
open Go.Lib (cell_of_heap hid)
open Go.RowKit
set_option maxRecDepth 20000
set_option linter.unusedVariables false
set_option linter.unusedSimpArgs false
def qG (a b:List Int):Bool:=a == b
theorem JI {a b:List Int} (h:a.length≠b.length):qG a b=false:=by
 unfold qG; rw [beq_eq_false_iff_ne]; intro e; exact h (by rw [e])
theorem Ot {a b:List Int} {k:Nat} (h1:k < a.length) (h2:k < b.length) (h:a[k]≠b[k]):qG a b=false:=by
 unfold qG; rw [beq_eq_false_iff_ne]; intro e; subst e; exact h rfl
theorem zK {a b:List Int} (h:a.length=b.length) (hall:∀ i (h1:i < a.length) (h2:i < b.length),a[i]=b[i]):qG a b=true:=by
 unfold qG; rw [beq_iff_eq]; exact List.ext_getElem h hall
set_option maxHeartbeats 1000000 in
theorem Gq (p:Option Addr) (n c:Nat) (l:List Int) (p':Option Addr) (n' c':Nat) (l':List Int) (w:World) (h:InV mkI w p n c l) (h':InV mkI w p' n' c' l') (hn:n≤17592186044416) :
  Calls prog 56 #[.slice p n c,.slice p' n' c'] w fun e w'=>e=.returned (.bool (qG l l'))∧Below w.heap.size w w':=by
 by_cases hln:n=n'
 ·subst hln
  have hl:=h.1;have hl':=h'.1;have HA:=hid h;have HA':=hid h';have HL:=hid hl;have HL':=hid hl';clear h h' hl hl';have hnz:(0:Int)≤(n:Int):=by omega
  go_enter func56,ntmps56
  go_wp2_with fail
  go_loopw [5] (fun i wr=>∃ k:Nat,k≤n∧i=.int .i64 k∧Hid (∀ i (h1:i < l.length) (h2:i < l'.length),i < k→l[i]=l'[i])∧∃ m,wr=w.drewN m) (fun i _=>n - (intOf i).toNat)
  case atStart=>exact ⟨0,by omega,rfl,hid (fun i _ _ h=>by omega),0,rfl⟩
  case round =>
   obtain ⟨k,hk,rfl,HE,m,rfl⟩:=hrel
   by_cases hlt:k < n
   ·obtain ⟨b,off,rfl,hc1,hb,hat⟩:=HA.out.2.resolve_left (by omega)
    obtain ⟨b',off',rfl,hc1',hb',hat'⟩:=HA'.out.2.resolve_left (by omega);have hkl:k < l.length:=by rw [← HL.out]; exact hlt
    have hkl':k < l'.length:=by rw [← HL'.out]; exact hlt
    have c0:w.cell? ⟨b,off+k,none⟩=some (.int .i64 l[k]):=hat k hkl;have c1:w.cell? ⟨b',off'+k,none⟩=some (.int .i64 l'[k]):=hat' k hkl';have hk1:(0:Int)≤(k:Int):=by omega
    have hk2:(k:Int) < (n:Int):=by omega
    by_cases heq:l[k]=l'[k]
    ·have HE2:Hid (∀ i (h1:i < l.length) (h2:i < l'.length),i < k+1→l[i]=l'[i]):=hid fun i h1 h2 hi=>by
      rcases Nat.lt_or_ge i k with h3 | h3
      ·exact HE.out i h1 h2 h3
      ·obtain rfl:i=k:=by omega
       exact heq
     rw [← heq] at c1;clear heq hat hat';generalize l[k]=t at *
     go_wp2
     go_quiet (fail)
     go_wp2
     go_roundw
     case rel=>exact ⟨k+1,by omega,by go_num,HE2,_,rfl⟩
     case measure=>simp [intOf]; omega
    ·have HR:=hid (Ot hkl hkl' heq)
     clear hat hat';have hne:(l[k] == l'[k])=false:=by rw [beq_eq_false_iff_ne]; exact heq
     generalize l[k]=t at *;generalize l'[k]=t' at *
     go_wp2
     go_quiet (fail)
     go_wp2
     go_ret
     exact ⟨aW HR.out.symm,below_drewN (below_drewN (Below.refl _ _) _) _⟩
   ·have HR:Hid (qG l l'=true):=hid (zK (by rw [← HL.out,← HL'.out]) fun i h1 h2=>HE.out i h1 h2 (by rw [← HL.out] at h1; omega))
    go_wp2
    go_ret
    exact ⟨aW HR.out.symm,below_drewN (Below.refl _ _) _⟩
 ·have HR:Hid (qG l l'=false):=hid (JI (by rw [← h.1,← h'.1]; exact hln))
  have hne:((n:Int) == (n':Int))=false:=by rw [beq_eq_false_iff_ne]; omega
  clear h h'
  go_enter func56,ntmps56
  go_wp2
  go_ret
  exact ⟨aW HR.out.symm,Below.refl _ _⟩
mutual
def Br.Alk (pl:Bool):Br→Br→Prop
 | .mk h ks,b=>h.k=b.h.k∧h.m=b.h.m∧h.ns=b.h.ns∧(pl=true→h.f=b.h.f∧h.t=b.h.t)∧Gn pl ks b.ks
def Gn (pl:Bool):List Br→List Br→Prop
 | [],l=>l=[]
 | x :: r,l=>∃ y s,l=y :: s∧x.Alk pl y∧Gn pl r s
end
theorem sJ (pl:Bool) (ks:List Br):∀ js:List Br,Gn pl ks js ↔ ks.length=js.length∧∀ i (h1:i < ks.length) (h2:i < js.length),ks[i].Alk pl js[i]:=by
 induction ks with
 | nil=>intro js; cases js <;> simp [Gn]
 | cons x r ih =>
  intro js;simp only [Gn]
  constructor
  ·rintro ⟨y,s,rfl,h1,h2⟩
   obtain ⟨h3,h4⟩:=(ih s).1 h2;refine ⟨by simp [h3],fun i a b=>?_⟩
   cases i with
   | zero=>exact h1
   | succ i=>exact h4 i (by simpa using a) (by simpa using b)
  ·rintro ⟨h1,h2⟩
   cases js with
   | nil=>simp at h1
   | cons y s =>
    refine ⟨y,s,rfl,h2 0 (by simp) (by simp),(ih s).2 ⟨by simpa using h1,fun i a b=>h2 (i+1) (by simpa using a) (by simpa using b)⟩⟩
set_option maxHeartbeats 4000000 in
theorem CV (pl:Bool) (a:Br):∀ (b:Br) (w:World),a.Lies w→b.Lies w→a.Few→a.Alk pl b →
  Calls prog 19 #[a.h.val,b.h.val,.bool pl] w fun e w'=>e=.returned (.bool true)∧Below w.heap.size w w':=by
 induction a using Br.ind with
 | hP h ks ih =>
  intro b w hl hl' hfit WH;have b1:Below w.heap.size w (w.alloc (.cells #[.int .i64 h.k,.int .i64 h.m,.int .i64 h.f,.int .i64 h.t,.slice h.np h.nn h.nc,.slice h.kp h.kn h.kc] 26)):=(Below.refl _ _).alloc (Nat.le_refl _) _;have c1:=Du w h 26;obtain ⟨w1,e1⟩:∃ w1,w1=w.alloc (.cells #[.int .i64 h.k,.int .i64 h.m,.int .i64 h.f,.int .i64 h.t,.slice h.np h.nn h.nc,.slice h.kp h.kn h.kc] 26):=⟨_,rfl⟩
  have s1:w1.heap.size=w.heap.size+1:=by rw [e1]; simp
  have c1:dV w1 w.heap.size 0 h:=by rw [e1]; exact c1
  rw [← e1] at b1;have l1:=hl.step _ b1;have hl2:=hl'.step _ b1;obtain ⟨g,js⟩:=b;have b2:Below w1.heap.size w1 (w1.alloc (.cells #[.int .i64 g.k,.int .i64 g.m,.int .i64 g.f,.int .i64 g.t,.slice g.np g.nn g.nc,.slice g.kp g.kn g.kc] 26)):=(Below.refl _ _).alloc (Nat.le_refl _) _;have c2:=Du w1 g 26;obtain ⟨w2,e2⟩:∃ w2,w2=w1.alloc (.cells #[.int .i64 g.k,.int .i64 g.m,.int .i64 g.f,.int .i64 g.t,.slice g.np g.nn g.nc,.slice g.kp g.kn g.kc] 26):=⟨_,rfl⟩
  have s2:w2.heap.size=w1.heap.size+1:=by rw [e2]; simp
  have c2:dV w2 w1.heap.size 0 g:=by rw [e2]; exact c2
  rw [← e2] at b2;have l2:=hl2.step _ b2;have c1:=c1.step (by omega) b2;have l1:=l1.step _ b2;have b12:=b1.trans (b2.mono (by omega));obtain ⟨vS,hkids,hall⟩:=(bW _ _).1 l1;obtain ⟨hnames',hkids',hall'⟩:=(bW _ _).1 l2;simp only [Br.Few,lu] at hfit;simp only [Br.Alk,Br.h,Br.ks] at WH;simp only [Br.h,Br.ks] at vS hkids hall hnames' hkids' hall' c1 c2 e1 e2 ⊢;obtain ⟨hk,hm,hf,ht,np,nn,nc,ns,kp,kn,kc⟩:=h;obtain ⟨gk,gm,gf,gt,np',nn',nc',ns',kp',kn',kc'⟩:=g;obtain ⟨Sj,hlen,Sl⟩:=hfit;obtain ⟨q1,q2,q3,q4,q5⟩:=WH
  simp only at q1 q2 q3 q4
  subst q1 q2 q3;rw [sJ] at q5;obtain ⟨hlj,hak⟩:=q5;have hkn:kn=ks.length:=hkids.1;have hkn':kn'=ks.length:=by rw [hlj]; exact hkids'.1
  subst hkn;subst hkn'
  simp only at Sj vS hnames' hkids hkids'
  have HI1:=hid (Gq np nn nc ns np' nn' nc' ns w2 vS hnames' (by have:=vS.1; omega));rw [show qG ns ns=true from zK rfl (fun _ _ _=>rfl)] at HI1;have HK:=hid hkids;have HK':=hid hkids';have HL:=hid hall;have HL':=hid hall';have HI:=hid ih;have HF2:=hid Sl;have HB:=hid b12;have ER:=hid c1;have HC2:=hid c2;have S1:=hid s1;have S2:=hid s2;have E2:=hid e2;have PM:=hid hak;have X7:=hid hlj;subst e1;clear vS hnames' hkids hkids' hall hall' ih Sl b12 c1 c2 l1 l2 b1 b2 hl hl2 hl' Sj s1 s2 e2 hak hlj
  cases pl
  ·clear q4
   go_enter func19,ntmps19
   go_wp2_with fail
   rw [← E2.out];refine HI1.out.mono ?_
   rintro e w3 ⟨rfl,hb3⟩;have HB3:=hid hb3;have hs2:=HB.out.size;have hz3:=hb3.size;have hz1:=S1.out;have hz2:=S2.out;obtain ⟨_,_,a2,a3,_,a5⟩:=(ER.out.step (by omega) hb3).box;obtain ⟨_,_,d2,d3,_,d5⟩:=(HC2.out.step (by omega) hb3).box;rw [hz1] at d5 d2 d3;clear hb3
   go_wp2_with fail
   go_loopw [7] (fun iv wr=>∃ i:Nat,i≤ks.length∧iv=.int .i64 i∧Hid (Below w3.heap.size w3 wr)) (fun iv _=>ks.length - (intOf iv).toNat)
   case atStart=>exact ⟨0,by omega,rfl,hid (Below.refl _ _)⟩
   case round =>
    obtain ⟨i,hi,rfl,Ib⟩:=hrel;have hbe:=Ib.out;have t5:=(hbe.cell (p:=⟨w.heap.size,_,none⟩) (by show w.heap.size < w3.heap.size; omega)).trans a5;have u5:=(hbe.cell (p:=⟨w.heap.size+1,_,none⟩) (by show w.heap.size+1 < w3.heap.size; omega)).trans d5;have hz:=hbe.size;clear a2 a3 d2 d3
    by_cases hlt:i < ks.length
    ·have hlt':i < js.length:=by rw [← X7.out]; exact hlt
     have vT:=HB3.out.trans (hbe.mono hz3);obtain ⟨bx,ox,rfl,_,hbx,LC⟩:=(HK.out.step vT).2.resolve_left (by omega);obtain ⟨bY,oY,rfl,_,Ie,LD⟩:=(HK'.out.step vT).2.resolve_left (by omega);obtain ⟨x0,x1,x2,x3,x4,x5⟩:=LC i hlt;obtain ⟨y0,y1,y2,y3,y4,y5⟩:=LD i hlt';have hmem:=List.getElem_mem hlt;have hmem':=List.getElem_mem hlt';have HX:=hid (HI.out ks[i] hmem js[i] wr.drew (((HL.out _ hmem).step _ vT).step _ (Below.refl _ _).drew) (((HL'.out _ hmem').step _ vT).step _ (Below.refl _ _).drew) (HF2.out _ hmem) (PM.out i hlt hlt'));have hr1:(0:Int)≤(i:Int):=by omega
     have hr2:(i:Int) < (ks.length:Int):=by omega
     have hwn:w.heap.size < wr.heap.size:=by omega
     have TU:w.heap.size+1 < wr.heap.size:=by omega
     clear LC LD hmem hmem' hbe vT a5 d5 HK HK' HL HL' HI HF2 HI1 ER HC2 S1 S2 E2 PM X7;generalize ks[i]=x at *;generalize js[i]=y at *
     go_wp2_with fail
     go_region_held3 (fun w'=>w'.cell? ⟨w.heap.size,5,none⟩=some (.slice (some ⟨bx,ox,none⟩) ks.length kc)∧w'.cell? ⟨w.heap.size+1,5,none⟩=some (.slice (some ⟨bY,oY,none⟩) ks.length kc')∧w'.cell? ⟨bx,ox+i * 6,none⟩=some (.int .i64 x.h.k)∧w'.cell? ⟨bx,ox+i * 6+1,none⟩=some (.int .i64 x.h.m)∧w'.cell? ⟨bx,ox+i * 6+2,none⟩=some (.int .i64 x.h.f)∧w'.cell? ⟨bx,ox+i * 6+3,none⟩=some (.int .i64 x.h.t)∧w'.cell? ⟨bx,ox+i * 6+4,none⟩=some (.slice x.h.np x.h.nn x.h.nc)∧w'.cell? ⟨bx,ox+i * 6+5,none⟩=some (.slice x.h.kp x.h.kn x.h.kc)∧w'.cell? ⟨bY,oY+i * 6,none⟩=some (.int .i64 y.h.k)∧w'.cell? ⟨bY,oY+i * 6+1,none⟩=some (.int .i64 y.h.m)∧w'.cell? ⟨bY,oY+i * 6+2,none⟩=some (.int .i64 y.h.f)∧w'.cell? ⟨bY,oY+i * 6+3,none⟩=some (.int .i64 y.h.t)∧w'.cell? ⟨bY,oY+i * 6+4,none⟩=some (.slice y.h.np y.h.nn y.h.nc)∧w'.cell? ⟨bY,oY+i * 6+5,none⟩=some (.slice y.h.kp y.h.kn y.h.kc)) (go_keep) ((first | (go_at_call 19; refine HX.out.mono ?_; rintro e w4 ⟨rfl,hb4⟩; have z0:=(hb4.cell (p:=⟨w.heap.size,_,none⟩) hwn).trans t5; have z1:=(hb4.cell (p:=⟨w.heap.size+1,_,none⟩) TU).trans u5; have z2:=(hb4.cell (p:=⟨bx,_,none⟩) hbx).trans x0; have z3:=(hb4.cell (p:=⟨bx,_,none⟩) hbx).trans x1; have z4:=(hb4.cell (p:=⟨bx,_,none⟩) hbx).trans x2; have z5:=(hb4.cell (p:=⟨bx,_,none⟩) hbx).trans x3; have z6:=(hb4.cell (p:=⟨bx,_,none⟩) hbx).trans x4; have z7:=(hb4.cell (p:=⟨bx,_,none⟩) hbx).trans x5; have z8:=(hb4.cell (p:=⟨bY,_,none⟩) Ie).trans y0; have z9:=(hb4.cell (p:=⟨bY,_,none⟩) Ie).trans y1; have z10:=(hb4.cell (p:=⟨bY,_,none⟩) Ie).trans y2; have z11:=(hb4.cell (p:=⟨bY,_,none⟩) Ie).trans y3; have z12:=(hb4.cell (p:=⟨bY,_,none⟩) Ie).trans y4; have z13:=(hb4.cell (p:=⟨bY,_,none⟩) Ie).trans y5)))
     have hb4':Below wr.heap.size wr w4:=((Below.refl _ _).drew).trans hb4;have HB4:=hid (Ib.out.trans (hb4'.mono hz));clear hb4 hb4'
     go_wp2_with fail
     go_roundw
     case rel=>exact ⟨i+1,by omega,by go_num,HB4⟩
     case measure=>simp [intOf]; omega
    ·have pR:=hid (HB.out.trans ((HB3.out.trans (hbe.mono hz3)).mono HB.out.size))
     clear hbe
     go_wp2_with fail
     go_ret
     exact ⟨by first | trivial | rfl,pR.out⟩
  ·obtain ⟨q6,q7⟩:=q4 rfl
   subst q6 q7;clear q4
   go_enter func19,ntmps19
   go_wp2_with fail
   rw [← E2.out];refine HI1.out.mono ?_
   rintro e w3 ⟨rfl,hb3⟩;have HB3:=hid hb3;have hs2:=HB.out.size;have hz3:=hb3.size;have hz1:=S1.out;have hz2:=S2.out;obtain ⟨_,_,a2,a3,_,a5⟩:=(ER.out.step (by omega) hb3).box;obtain ⟨_,_,d2,d3,_,d5⟩:=(HC2.out.step (by omega) hb3).box;rw [hz1] at d5 d2 d3;clear hb3
   go_wp2_with fail
   go_loopw [7] (fun iv wr=>∃ i:Nat,i≤ks.length∧iv=.int .i64 i∧Hid (Below w3.heap.size w3 wr)) (fun iv _=>ks.length - (intOf iv).toNat)
   case atStart=>exact ⟨0,by omega,rfl,hid (Below.refl _ _)⟩
   case round =>
    obtain ⟨i,hi,rfl,Ib⟩:=hrel;have hbe:=Ib.out;have t5:=(hbe.cell (p:=⟨w.heap.size,_,none⟩) (by show w.heap.size < w3.heap.size; omega)).trans a5;have u5:=(hbe.cell (p:=⟨w.heap.size+1,_,none⟩) (by show w.heap.size+1 < w3.heap.size; omega)).trans d5;have hz:=hbe.size;clear a2 a3 d2 d3
    by_cases hlt:i < ks.length
    ·have hlt':i < js.length:=by rw [← X7.out]; exact hlt
     have vT:=HB3.out.trans (hbe.mono hz3);obtain ⟨bx,ox,rfl,_,hbx,LC⟩:=(HK.out.step vT).2.resolve_left (by omega);obtain ⟨bY,oY,rfl,_,Ie,LD⟩:=(HK'.out.step vT).2.resolve_left (by omega);obtain ⟨x0,x1,x2,x3,x4,x5⟩:=LC i hlt;obtain ⟨y0,y1,y2,y3,y4,y5⟩:=LD i hlt';have hmem:=List.getElem_mem hlt;have hmem':=List.getElem_mem hlt';have HX:=hid (HI.out ks[i] hmem js[i] wr.drew (((HL.out _ hmem).step _ vT).step _ (Below.refl _ _).drew) (((HL'.out _ hmem').step _ vT).step _ (Below.refl _ _).drew) (HF2.out _ hmem) (PM.out i hlt hlt'));have hr1:(0:Int)≤(i:Int):=by omega
     have hr2:(i:Int) < (ks.length:Int):=by omega
     have hwn:w.heap.size < wr.heap.size:=by omega
     have TU:w.heap.size+1 < wr.heap.size:=by omega
     clear LC LD hmem hmem' hbe vT a5 d5 HK HK' HL HL' HI HF2 HI1 ER HC2 S1 S2 E2 PM X7;generalize ks[i]=x at *;generalize js[i]=y at *
     go_wp2_with fail
     go_region_held3 (fun w'=>w'.cell? ⟨w.heap.size,5,none⟩=some (.slice (some ⟨bx,ox,none⟩) ks.length kc)∧w'.cell? ⟨w.heap.size+1,5,none⟩=some (.slice (some ⟨bY,oY,none⟩) ks.length kc')∧w'.cell? ⟨bx,ox+i * 6,none⟩=some (.int .i64 x.h.k)∧w'.cell? ⟨bx,ox+i * 6+1,none⟩=some (.int .i64 x.h.m)∧w'.cell? ⟨bx,ox+i * 6+2,none⟩=some (.int .i64 x.h.f)∧w'.cell? ⟨bx,ox+i * 6+3,none⟩=some (.int .i64 x.h.t)∧w'.cell? ⟨bx,ox+i * 6+4,none⟩=some (.slice x.h.np x.h.nn x.h.nc)∧w'.cell? ⟨bx,ox+i * 6+5,none⟩=some (.slice x.h.kp x.h.kn x.h.kc)∧w'.cell? ⟨bY,oY+i * 6,none⟩=some (.int .i64 y.h.k)∧w'.cell? ⟨bY,oY+i * 6+1,none⟩=some (.int .i64 y.h.m)∧w'.cell? ⟨bY,oY+i * 6+2,none⟩=some (.int .i64 y.h.f)∧w'.cell? ⟨bY,oY+i * 6+3,none⟩=some (.int .i64 y.h.t)∧w'.cell? ⟨bY,oY+i * 6+4,none⟩=some (.slice y.h.np y.h.nn y.h.nc)∧w'.cell? ⟨bY,oY+i * 6+5,none⟩=some (.slice y.h.kp y.h.kn y.h.kc)) (go_keep) ((first | (go_at_call 19; refine HX.out.mono ?_; rintro e w4 ⟨rfl,hb4⟩; have z0:=(hb4.cell (p:=⟨w.heap.size,_,none⟩) hwn).trans t5; have z1:=(hb4.cell (p:=⟨w.heap.size+1,_,none⟩) TU).trans u5; have z2:=(hb4.cell (p:=⟨bx,_,none⟩) hbx).trans x0; have z3:=(hb4.cell (p:=⟨bx,_,none⟩) hbx).trans x1; have z4:=(hb4.cell (p:=⟨bx,_,none⟩) hbx).trans x2; have z5:=(hb4.cell (p:=⟨bx,_,none⟩) hbx).trans x3; have z6:=(hb4.cell (p:=⟨bx,_,none⟩) hbx).trans x4; have z7:=(hb4.cell (p:=⟨bx,_,none⟩) hbx).trans x5; have z8:=(hb4.cell (p:=⟨bY,_,none⟩) Ie).trans y0; have z9:=(hb4.cell (p:=⟨bY,_,none⟩) Ie).trans y1; have z10:=(hb4.cell (p:=⟨bY,_,none⟩) Ie).trans y2; have z11:=(hb4.cell (p:=⟨bY,_,none⟩) Ie).trans y3; have z12:=(hb4.cell (p:=⟨bY,_,none⟩) Ie).trans y4; have z13:=(hb4.cell (p:=⟨bY,_,none⟩) Ie).trans y5)))
     have hb4':Below wr.heap.size wr w4:=((Below.refl _ _).drew).trans hb4;have HB4:=hid (Ib.out.trans (hb4'.mono hz));clear hb4 hb4'
     go_wp2_with fail
     go_roundw
     case rel=>exact ⟨i+1,by omega,by go_num,HB4⟩
     case measure=>simp [intOf]; omega
    ·have pR:=hid (HB.out.trans ((HB3.out.trans (hbe.mono hz3)).mono HB.out.size))
     clear hbe
     go_wp2_with fail
     go_ret
     exact ⟨by first | trivial | rfl,pR.out⟩
open Go.RowKit Go.Maps
abbrev bn:=ByteArray × ByteArray
def FAt (w:World) (b o:Nat) (f:bn):Prop:=w.cell? ⟨b,o,none⟩=some (.string f.1)∧w.cell? ⟨b,o+1,none⟩=some (.string f.2)
def sumT (l:List bn):Nat:=(l.map fun f=>f.2.size).sum
theorem sumT_snoc (l:List bn) (f:bn):sumT (l++[f])=sumT l+f.2.size:=by simp [sumT]
theorem pV (l:List bn) (k:Nat) (f:bn) (h:l[k]?=some f):sumT (l.take (k+1))=sumT (l.take k)+f.2.size:=by
 obtain ⟨hk,e⟩:=List.getElem?_eq_some_iff.1 h;rw [List.take_succ_eq_append_getElem hk,sumT_snoc,e]
theorem vM (l:List bn) (k:Nat):sumT (l.take k)≤sumT l:=by
 have h2:sumT (l.take k++l.drop k)=sumT (l.take k)+sumT (l.drop k):=by simp only [sumT,List.map_append,List.sum_append]
 rw [List.take_append_drop] at h2; omega
theorem Qc:Keyed prog 9:=string_keyed underlying9
def Fz (s:ByteArray):Lit:=.string s.data.toList
theorem aaQ (s:ByteArray) (h:s.size≤9223372036854775807):keyOf prog 9 (.string s)=some (Fz s):=Go.WideMaps.keyOf_string_mk underlying9 h
theorem Nc {a b:ByteArray} (h:Fz a=Fz b):a=b:=by
 have:=Lit.string.inj h
 rw [← Lib.mk_data a,← Lib.mk_data b,this]
theorem Nw (s:ByteArray):WideAt.IsKeyLit (Fz s):=trivial
structure Bears (w:World) (mb:Nat) (l:List ByteArray):Prop where
 ex:∃ (D:DataW Unit) (n:Nat),w.ownsMap prog 9 (plainElem prog 3) mb n D∧n≤l.length∧∀ x:ByteArray,Maps.has D (Fz x)=true ↔ x ∈ l
def Eh (fs:List bn) (t:Nat) (k f:Int):Prop :=
 (1000 < fs.length∧k=5∧f=1000)∨(fs.length≤1000∧t < fs.length∧k=11∧f=t)∨(fs.length≤1000∧t=fs.length∧k=0∧f=0)
structure jT (l:List ByteArray) (t:Nat):Prop where
 le:t≤l.length
 nd:(l.take t).Nodup
 tw:t < l.length→∃ x,l[t]?=some x∧x ∈ l.take t
def AA (w:World) (fs:List bn) (t:Nat) (e:Ending) (w':World):Prop:=∃ k f,Eh fs t k f∧e=.returned (.agg #[.int .i64 k,.int .i64 f,.int .i64 0])∧Below w.heap.size w w'
theorem UK {w w1 w2:World} {r:Option Nat} (h:w.grownBy w1 r) (k:w1.grownBy w2 r):w.grownBy w2 r :=
 ⟨k.os.trans h.os,k.tape.trans h.tape,k.output.trans h.output,Nat.le_trans h.size k.size,fun j hj hr=>(k.block j (Nat.lt_of_lt_of_le hj h.size) hr).trans (h.block j hj hr)⟩
theorem aaB {w:World} (b o:Nat) (v:Value):w.grownBy (w.setCell ⟨b,o,none⟩ v) (some b) :=
 ⟨rfl,rfl,rfl,by simp,fun k hk hne=>Below.heap_setCell _ _ _ _ (fun e=>hne (by rw [e]))⟩
theorem SH (b:Nat):∀ (vs:List Value) (o:Nat) (w:World),w.grownBy (w.setCells b o vs) (some b)
 | [],o,w=>⟨rfl,rfl,rfl,Nat.le_refl _,fun _ _ _=>rfl⟩
 | v :: vs,o,w=>UK (aaB b o v) (SH b vs (o+1) _)
set_option maxHeartbeats 4000000 in
theorem Ae (fs:List bn) (t:Nat) (b o n cap:Nat) (w:World) (hat:∀ i f,fs[i]?=some f→FAt w b (o+i * 2) f) (hb:b < w.heap.size) (hn:n=fs.length) (h0:0 < n) (hc:n≤cap) (hlim:n≤100000)
  (hsz:sumT fs≤16777216) (hnm:∀ f ∈ fs,f.1.size≤9223372036854775807) (ht:jT (fs.map (·.1)) t) :
  Calls prog 74 #[.slice (some ⟨b,o,none⟩) n cap] w (AA w fs t):=by
 obtain ⟨W1,hW1⟩:∃ W1,W1=w.alloc (.cells #[.int .i64 0,.int .i64 0,.int .i64 0] 65):=⟨_,rfl⟩
 have hb1:Below w.heap.size w W1:=by rw [hW1]; exact (Below.refl _ _).alloc (Nat.le_refl _) _
 have hz1:W1.heap.size=w.heap.size+1:=by rw [hW1]; simp
 have hrx:W1.heap[w.heap.size]?=some (.cells #[.int .i64 0,.int .i64 0,.int .i64 0] 65):=by rw [hW1]; exact heap_alloc_new w _
 have HAT:=hid hat
 have HB1:=hid hb1;have AV:=hid hrx;have HN:=hid hn;have X8:=hid hnm;have HT:=hid ht;have HW1:=hid hW1;clear hat hb1 hrx hnm ht hn;clear hW1;have vU:(prog.info? 65).map (·.size)=some 3:=by kernel_rfl
 have Bv:=hid vU;have PH:Hid (∀ (wr:World) (v0 v1 v2:Value),Below W1.heap.size W1 wr→wr.there w.heap.size 0 3∧Below w.heap.size w (wr.setCells w.heap.size 0 [v0,v1,v2])∧(wr.setCells w.heap.size 0 [v0,v1,v2]).cell? ⟨w.heap.size,0,none⟩=some v0∧(wr.setCells w.heap.size 0 [v0,v1,v2]).cell? ⟨w.heap.size,1,none⟩=some v1∧(wr.setCells w.heap.size 0 [v0,v1,v2]).cell? ⟨w.heap.size,2,none⟩=some v2):=hid fun wr v0 v1 v2 hbw=>by
  have hbk:=(hbw.block w.heap.size (by omega)).trans AV.out;have hth:wr.there w.heap.size 0 3:=fun j hj=>by
   refine ⟨?_,by simp only [World.frozen?]; rw [hbk]; simp⟩
   rw [cell_of_heap hbk,Array.getElem?_eq_getElem (by simpa using hj)]
   rfl
  have hin:=World.cell?_setCells_in w.heap.size [v0,v1,v2] 0 wr (fun j hj=>(hth j hj).1);refine ⟨hth,?_,hin 0 (by show 0 < 3; omega),hin 1 (by show 1 < 3; omega),hin 2 (by show 2 < 3; omega)⟩
  have h8:=HB1.out.trans (hbw.mono (by omega));exact h8.grown (SH w.heap.size [v0,v1,v2] 0 wr) h8.size (fun j hj=>by have:=Option.some.inj hj; omega)
 clear vU;have ZK:Hid (w.alloc (.cells #[.int .i64 0,.int .i64 0,.int .i64 0] 65)=W1):=hid HW1.out.symm
 by_cases hl:1000 < n
 ·go_enter func74,ntmps74
  go_wp2_with fail
  exact bodyPost_ret (v:=.agg #[.int .i64 5,.int .i64 1000,.int .i64 0]) (by simp [results,results74,go_sem]) rfl ⟨5,1000,.inl ⟨by have:=HN.out; omega,rfl,rfl⟩,rfl,(Below.refl _ _).alloc (Nat.le_refl _) _⟩
 ·go_enter func74,ntmps74
  go_wp2_with fail
  rw [ZK.out]
  go_loopw [3,17] (fun v i wr=>∃ k:Nat,k≤n∧i=.int .i64 k∧v=.int .i64 ((16777216:Int) - (sumT (fs.take k):Int))∧Hid (Below W1.heap.size W1 wr)) (fun _ i _=>n - (intOf i).toNat)
  case atStart=>exact ⟨0,by omega,rfl,by simp [sumT],hid (Below.refl _ _)⟩
  case round =>
   obtain ⟨k,hk,rfl,rfl,X9⟩:=hrel;have h9:=vM fs k
   by_cases hlt:k < n
   ·have hkl:k < fs.length:=by have:=HN.out; omega
    obtain ⟨f,hf⟩:∃ f,fs[k]?=some f:=⟨_,List.getElem?_eq_getElem hkl⟩
    obtain ⟨q0,q1⟩:=HAT.out k f hf;have hbr:=X9.out;have hsz1:=hbr.size;have hbw:Below w.heap.size w wr:=HB1.out.trans (hbr.mono (by omega));have p0:=(hbw.cell (p:=⟨b,o+k * 2,none⟩) hb).trans q0;have p1:=(hbw.cell (p:=⟨b,o+k * 2+1,none⟩) hb).trans q1;have hst:=pV fs k f hf;have h10:=vM fs (k+1);have hle:sumT (fs.take k)+f.2.size≤16777216:=by omega
    generalize hS:sumT (fs.take k)=S at *;have HST:=hid hst;obtain ⟨nm,tx⟩:=f
    simp only at p0 p1 hle HST
    have HS:=hid hS;clear q0 q1 hst h10 hbr hbw hf hS h9 hkl
    go_wp2_with fail
    go_roundw
    case rel=>exact ⟨k+1,by omega,by go_num,by rw [HST.out]; exact congrArg (Value.int .i64) (by omega),hid (X9.out.alloc hsz1 _)⟩
    case measure=>simp [intOf]; omega
   ·have hkn:k=n:=by omega
    subst hkn;obtain ⟨W2,hW2⟩:∃ W2,W2=wr:=⟨_,rfl⟩
    subst hW2;have hmm:=@run_makeMap prog;have hbr:=X9.out;have hsz1:=hbr.size;have XY:=hid (HT.out.le);have ZL:Hid ((fs.map (·.1)).length=k):=hid (by rw [List.length_map]; exact HN.out.symm);clear hlt h9 hbr
    go_wp2_with fail
    go_loopw [38] (fun i wr=>∃ j:Nat,j≤k∧j≤t∧i=.int .i64 j∧Hid (Below W1.heap.size W1 wr)∧Hid (Bears wr W2.heap.size ((fs.map (·.1)).take j))) (fun i _=>k - (intOf i).toNat)
    case atStart=>exact ⟨0,by omega,by omega,rfl,hid (X9.out.alloc hsz1 _),hid ⟨_,0,World.ownsMap_made _ _ _ _,by simp,fun x=>by simp [Maps.has]⟩⟩
    case round =>
     obtain ⟨j,hj,hjt,rfl,Ya,HBe⟩:=hrel;have hbs:=Ya.out;have hsz2:=hbs.size;have hbw:Below w.heap.size w wr:=HB1.out.trans (hbs.mono (by omega))
     by_cases hlt:j < k
     ·have hkl:j < fs.length:=by have:=HN.out; omega
      obtain ⟨f,hf⟩:∃ f,fs[j]?=some f:=⟨_,List.getElem?_eq_getElem hkl⟩
      obtain ⟨q0,q1⟩:=HAT.out j f hf;have p0:=(hbw.cell (p:=⟨b,o+j * 2,none⟩) hb).trans q0;have p1:=(hbw.cell (p:=⟨b,o+j * 2+1,none⟩) hb).trans q1;obtain ⟨nm,tx⟩:=f
      simp only at p0 p1
      have hnl:(fs.map (·.1))[j]?=some nm:=by rw [List.getElem?_map,hf]; rfl
      have hkey:=aaQ nm (X8.out (nm,tx) (List.mem_of_getElem? hf));obtain ⟨D,m,hown,hmn,hhas⟩:=HBe.out.ex;have ads:m≤100000:=by rw [List.length_take] at hmn; omega
      by_cases PO:j=t
      ·have hh:Maps.has D (Fz nm)=true:=by
        rw [hhas,PO];obtain ⟨x,h1,h2⟩:=HT.out.tw (by have:=ZL.out; omega);rw [← PO,hnl] at h1;rw [Option.some.inj h1]; exact h2
       have HJT:=hid PO;obtain ⟨e1,e2,e3,e4,e5⟩:=PH.out (wr.alloc (.cells #[.string nm,.string tx] 76)) (.int .i64 11) (.int .i64 j) (.int .i64 0) (Ya.out.alloc hsz2 _);have Ll:=hid e1;have yP:=hid e2;obtain ⟨WX,mr⟩:∃ WX,WX=(wr.alloc (.cells #[.string nm,.string tx] 76)).setCells w.heap.size 0 [.int .i64 11,.int .i64 j,.int .i64 0]:=⟨_,rfl⟩
       rw [← mr] at e3 e4 e5 yP;have yA:=hid mr;have hown2:=hown.alloc (.cells #[.string nm,.string tx] 76);clear q0 q1 hf hnl PO hhas hbs hbw e1 e2 mr hmn hown
       go_wp2_with (first
        | (at_lookup; refine wpList_lookup_own_ok_int _ rfl _ _ 190 rfl 9 3 .i64 Qc underlying190 underlying3 (zero3 _) W2.heap.size m D rfl hown2 _ _ rfl hkey ?_; intro c TV hwc; clear TV hwc)
        | (refine wpList_store_mid rfl 65 (.tmp 2) (.tmp 52) rfl w.heap.size 0 #[.int .i64 11,.int .i64 j,.int .i64 0] rfl rfl Ll.out Bv.out (by simp [Value.oneCell']) ?_; show wpList _ _ _ _ _ ((wr.alloc (.cells #[.string nm,.string tx] 76)).setCells w.heap.size 0 [.int .i64 11,.int .i64 j,.int .i64 0]); rw [← yA.out])
        | go_in)
       refine bodyPost_ret (v:=.agg #[.int .i64 11,.int .i64 j,.int .i64 0]) (by simp [results,results74,go_sem,e3,e4,e5,Result.andThen]; try rfl) rfl ?_
       exact ⟨11,j,.inr (.inl ⟨by have:=HN.out; omega,by have:=HN.out; have:=HJT.out; omega,rfl,by rw [HJT.out]⟩),rfl,yP.out⟩
      ·have hh:Maps.has D (Fz nm)=false:=by
        refine Bool.eq_false_iff.2 fun h=>?_
        rw [hhas] at h;have h1:=HT.out.nd;have adt:j+1≤t:=by omega
        have h2:((fs.map (·.1)).take (j+1)).Nodup:=by
         have:((fs.map (·.1)).take (j+1))=((fs.map (·.1)).take t).take (j+1):=by rw [List.take_take]; congr 1; omega
         rw [this]; exact h1.sublist (List.take_sublist _ _)
        obtain ⟨hk9,e9⟩:=List.getElem?_eq_some_iff.1 hnl;rw [List.take_succ_eq_append_getElem hk9,e9,List.nodup_append] at h2;exact h2.2.2 _ h _ (by simp) rfl
       have hown2:=hown.alloc (.cells #[.string nm,.string tx] 76);have yz:=hid hnl;have Bo:=hid hhas;have Yb:=hid hmn;have htd:=hown.tidy Qc;have HTD:=hid htd;have hal:Below W1.heap.size W1 (wr.alloc (.cells #[.string nm,.string tx] 76)):=Ya.out.alloc hsz2 _;have XW:=hid hal;have hmb:W1.heap.size≤W2.heap.size:=hsz1;clear q0 q1 hf hnl hhas hbs hbw hown hmn htd hal
       go_wp2_with (first
        | (at_lookup; refine wpList_lookup_own_ok_int _ rfl _ _ 190 rfl 9 3 .i64 Qc underlying190 underlying3 (zero3 _) W2.heap.size m D rfl hown2 _ _ rfl hkey ?_; intro c TV hwc; clear TV hwc)
        | (at_mapUpdate; refine wpList_mapUpdate_own _ rfl _ _ _ 190 rfl 9 3 Qc underlying190 _ W2.heap.size m _ rfl hown2 (by unfold maxLen; omega) _ _ _ rfl rfl hkey _ [] (plainElem_int underlying3 (WalkArith.wf_i64 (by omega))) ?_; intro w5 hown5 jm)
        | go_in)
       have kW:=hid hown5;have oJ:=hid jm;clear hown5 jm hown2
       go_roundw
       case rel =>
        refine ⟨j+1,by omega,by omega,by go_num,hid (XW.out.grown oJ.out XW.out.size (fun i hi=>by cases hi; exact hmb)),hid ⟨_,m+1,kW.out,?_,fun x=>?_⟩⟩
        ·have:=Yb.out
         have:=ZL.out
         rw [List.length_take] at *; omega
        ·obtain ⟨hk9,e9⟩:=List.getElem?_eq_some_iff.1 yz.out
         rw [List.take_succ_eq_append_getElem hk9,e9,List.mem_append,List.mem_singleton]
         by_cases hx:x=nm
         ·subst hx
          rw [has_put_same HTD.out.isMap (Nw _)]; simp
         ·rw [has_put_other (fun e=>hx (Nc e)),Bo.out]; simp [hx]
       case measure=>simp [intOf]; omega
     ·have hjk:j=k:=by omega
      obtain ⟨e1,e2,e3,e4,e5⟩:=PH.out wr (.int .i64 0) (.int .i64 0) (.int .i64 0) Ya.out;have Ll:=hid e1;have yP:=hid e2;obtain ⟨WX,mr⟩:∃ WX,WX=wr.setCells w.heap.size 0 [.int .i64 0,.int .i64 0,.int .i64 0]:=⟨_,rfl⟩
      rw [← mr] at e3 e4 e5 yP;have yA:=hid mr;subst hjk;clear e1 e2 mr hbs hbw HBe
      go_wp2_with (first
       | (refine wpList_store_mid rfl 65 (.tmp 2) (.tmp 58) rfl w.heap.size 0 #[.int .i64 0,.int .i64 0,.int .i64 0] rfl rfl Ll.out Bv.out (by simp [Value.oneCell']) ?_; show wpList _ _ _ _ _ (wr.setCells w.heap.size 0 [.int .i64 0,.int .i64 0,.int .i64 0]); rw [← yA.out])
       | go_in)
      refine bodyPost_ret (v:=.agg #[.int .i64 0,.int .i64 0,.int .i64 0]) (by simp [results,results74,go_sem,e3,e4,e5,Result.andThen]; try rfl) rfl ?_
      exact ⟨0,0,.inr (.inr ⟨by have:=HN.out; omega,by have:=XY.out; rw [ZL.out] at this; have:=HN.out; omega,rfl,rfl⟩),rfl,yP.out⟩
set_option maxHeartbeats 4000000 in
theorem uX (p:Option Addr) (cap:Nat) (w:World):Calls prog 74 #[.slice p 0 cap] w (AA w [] 0):=by
 have hmm:=@run_makeMap prog
 go_enter func74,ntmps74
 go_wp2_with fail
 refine wp_loop_rounds 1 ?_
 rw [rounds_succ]
 go_wp2_with fail
 refine wp_loop_rounds 1 ?_
 rw [rounds_succ]
 go_wp2_with fail
 have hc:∀ j:Nat,j < 3→((w.alloc (.cells #[.int .i64 0,.int .i64 0,.int .i64 0] 65)).alloc (.map #[] 0)).cell? ⟨w.heap.size,j,none⟩=some (.int .i64 0):=fun j hj=>by
  rw [((Below.refl (w.alloc (.cells #[.int .i64 0,.int .i64 0,.int .i64 0] 65)).heap.size _).alloc (Nat.le_refl _) _).cell (p:=⟨w.heap.size,j,none⟩) (by show w.heap.size < _; simp)];rw [cell_of_heap (heap_alloc_new w _)]
  match j,hj with
  | 0,_=>rfl
  | 1,_=>rfl
  | 2,_=>rfl
 have c0:=hc 0 (by omega);have c1:=hc 1 (by omega);have c2:=hc 2 (by omega);refine bodyPost_ret (v:=.agg #[.int .i64 0,.int .i64 0,.int .i64 0]) (by simp [results,results74,go_sem,c0,c1,c2,Result.andThen]; try rfl) rfl ?_
 exact ⟨0,0,.inr (.inr ⟨by simp,rfl,rfl,rfl⟩),rfl,((Below.refl _ _).alloc (Nat.le_refl _) _).alloc (by simp) _⟩
def FIn (w:World) (p:Option Addr) (n cap:Nat) (fs:List bn):Prop:=n=fs.length∧(n=0∨∃ b o,p=some ⟨b,o,none⟩∧n≤cap∧b < w.heap.size∧∀ i f,fs[i]?=some f→FAt w b (o+i * 2) f)
theorem Dl (fs:List bn) (t:Nat) (p:Option Addr) (n cap:Nat) (w:World) (h:FIn w p n cap fs) (hlim:n≤100000)
  (hsz:sumT fs≤16777216) (hnm:∀ f ∈ fs,f.1.size≤9223372036854775807) (ht:jT (fs.map (·.1)) t) :
  Calls prog 74 #[.slice p n cap] w (AA w fs t):=by
 obtain ⟨hn,h0 | ⟨b,o,rfl,hc,hb,hat⟩⟩:=h
 ·subst h0
  obtain rfl:fs=[]:=List.eq_nil_of_length_eq_zero hn.symm;obtain rfl:t=0:=by have:=ht.le; simpa using this
  exact uX p cap w
 ·rcases Nat.eq_zero_or_pos n with h0 | h0
  ·subst h0
   obtain rfl:fs=[]:=List.eq_nil_of_length_eq_zero hn.symm;obtain rfl:t=0:=by have:=ht.le; simpa using this
   exact uX _ cap w
  ·exact Ae fs t b o n cap w hat hb hn h0 hc hlim hsz hnm ht
structure PC where
 f:bn
 h:Hd
 first:Int
 oa:Nat
 m:Nat
def PC.cells (p:PC):List Value:=[.string p.f.1,.string p.f.2,.int .i64 p.h.k,.int .i64 p.h.m,.int .i64 p.h.f,.int .i64 p.h.t,.slice p.h.np p.h.nn p.h.nc,.slice p.h.kp p.h.kn p.h.kc,.int .i64 p.first,.slice (some ⟨p.oa,0,none⟩) p.m p.m]
structure Ip (W:World) (b o:Nat) (p:PC):Prop where
 c0:W.cell? ⟨b,o,none⟩=some (.string p.f.1)
 c1:W.cell? ⟨b,o+1,none⟩=some (.string p.f.2)
 c2:W.cell? ⟨b,o+2,none⟩=some (.int .i64 p.h.k)
 c3:W.cell? ⟨b,o+3,none⟩=some (.int .i64 p.h.m)
 c4:W.cell? ⟨b,o+4,none⟩=some (.int .i64 p.h.f)
 c5:W.cell? ⟨b,o+5,none⟩=some (.int .i64 p.h.t)
 c6:W.cell? ⟨b,o+6,none⟩=some (.slice p.h.np p.h.nn p.h.nc)
 c7:W.cell? ⟨b,o+7,none⟩=some (.slice p.h.kp p.h.kn p.h.kc)
 c8:W.cell? ⟨b,o+8,none⟩=some (.int .i64 p.first)
 c9:W.cell? ⟨b,o+9,none⟩=some (.slice (some ⟨p.oa,0,none⟩) p.m p.m)
theorem Ip.ext {W W':World} {b o:Nat} {p:PC} (h:Ip W b o p) (he:∀ j,j < 10→W'.cell? ⟨b,o+j,none⟩=W.cell? ⟨b,o+j,none⟩):Ip W' b o p :=
 ⟨(he 0 (by omega)).trans h.c0,(he 1 (by omega)).trans h.c1,(he 2 (by omega)).trans h.c2,(he 3 (by omega)).trans h.c3,(he 4 (by omega)).trans h.c4,(he 5 (by omega)).trans h.c5,(he 6 (by omega)).trans h.c6,(he 7 (by omega)).trans h.c7,(he 8 (by omega)).trans h.c8,(he 9 (by omega)).trans h.c9⟩
abbrev PC.val (p:PC):Value:=.agg #[.string p.f.1,.string p.f.2,.int .i64 p.h.k,.int .i64 p.h.m,.int .i64 p.h.f,.int .i64 p.h.t,.slice p.h.np p.h.nn p.h.nc,.slice p.h.kp p.h.kn p.h.kc,.int .i64 p.first,.slice (some ⟨p.oa,0,none⟩) p.m p.m]
structure UAt (W:World) (pu gp:Nat) (ps:List PC):Prop where
 u:W.cell? ⟨pu,0,none⟩=some (.slice (some ⟨gp,0,none⟩) ps.length ps.length)
 pl:pu < W.heap.size
 gl:gp < W.heap.size
 part:∀ i p,ps[i]?=some p→Ip W gp (i * 10) p
theorem UAt.step {W W':World} {pu gp:Nat} {ps:List PC} (h:UAt W pu gp ps) (hb:Below W.heap.size W W'):UAt W' pu gp ps :=
 ⟨(hb.cell (p:=⟨pu,0,none⟩) h.pl).trans h.u,Nat.lt_of_lt_of_le h.pl hb.size,Nat.lt_of_lt_of_le h.gl hb.size,fun i p hp=>(h.part i p hp).ext fun j _=>hb.cell (p:=⟨gp,_,none⟩) h.gl⟩
theorem pO (W:World) (pu:Nat) (v:Value) (h:W.cell? ⟨pu,0,none⟩=some v):Calls prog 78 #[.pointer (some ⟨pu,0,none⟩)] W fun e W'=>e=.returned v∧W=W':=by
 go_enter func78,ntmps78
 go_wp2
 go_ret
 exact ⟨rfl,rfl⟩
abbrev acu:Value:=.agg #[.string ⟨#[]⟩,.string ⟨#[]⟩,.int .i64 0,.int .i64 0,.int .i64 0,.int .i64 0,.slice none 0 0,.slice none 0 0,.int .i64 0,.slice none 0 0]
set_option maxHeartbeats 4000000 in
theorem Ji (W:World) (pu gp:Nat) (ps:List PC) (i:Nat) (p:PC) (hu:UAt W pu gp ps) (hi:ps[i]?=some p) :
  Calls prog 75 #[.pointer (some ⟨pu,0,none⟩),.int .i64 i] W fun e W'=>e=.returned (.tuple #[p.val,.bool true])∧Below W.heap.size W W':=by
 have hb:=((Below.refl W.heap.size W).alloc (Nat.le_refl _) (.cells #[.string ⟨#[]⟩,.string ⟨#[]⟩,.int .i64 0,.int .i64 0,.int .i64 0,.int .i64 0,.slice none 0 0,.slice none 0 0,.int .i64 0,.slice none 0 0] 132));have hu1:=hu.step hb;have hu2:=hu1.u;obtain ⟨p0,p1,p2,p3,p4,p5,p6,p7,p8,p9⟩:=hu1.part i p hi;have hlt:=(List.getElem?_eq_some_iff.1 hi).1;have HA:=hid (pO _ _ _ hu2);have h1:(0:Int)≤(i:Int):=by omega
 have h2:(i:Int) < (ps.length:Int):=by omega
 have h3:¬ (ps.length:Int)≤(i:Int):=by omega
 clear hu hu1 hu2 hi hb hlt;generalize ps.length=n at *
 go_enter func75,ntmps75
 go_wp2_with fail
 refine HA.out.mono ?_
 rintro e w1 ⟨rfl,rfl⟩
 go_wp2_with fail
 refine bodyPost_ret (v:=.tuple #[p.val,.bool true]) (by simp [results,results75,go_sem]) rfl ⟨rfl,(Below.refl _ _).alloc (Nat.le_refl _) _⟩
end Go.Proofs.YtmpmfamiegpmgaaGreatDoor
namespace Go.Proofs
open Go.Shelf
def Tryz.laysM316_ren:Go.Shelf.Ren:=⟨fun | 316=>116 | n=>n,fun | 9=>9 | 3=>3 | 4=>4 | 37=>139 | 0=>0 | 127=>231 | 5=>5 | n=>n,fun | n=>n⟩
theorem Tryz.laysM316:Go.Proofs.LaysM.n316 Tryz.prog Tryz.laysM316_ren:={
 mixed:=by kernel_rfl
 f316:=Tryz.func116.trans (congrArg some (by kernel_rfl))
 t0:=Tryz.underlying0
 a0:=Tryz.isAgg0
 z0:=Tryz.sizeOf0
 v0:=Tryz.zeroValue0
 t3:=Tryz.underlying3
 a3:=Tryz.isAgg3
 z3:=Tryz.sizeOf3
 v3:=Tryz.zeroValue3
 t4:=Tryz.underlying4
 a4:=Tryz.isAgg4
 z4:=Tryz.sizeOf4
 v4:=Tryz.zeroValue4
 t9:=Tryz.underlying9
 a9:=Tryz.isAgg9
 z9:=Tryz.sizeOf9
 v9:=Tryz.zeroValue9
 t37:=Tryz.underlying139
 a37:=Tryz.isAgg139
 z37:=Tryz.sizeOf139
 v37:=Tryz.zeroValue139
 t127:=Tryz.underlying231
 a127:=Tryz.isAgg231
 z127:=Tryz.sizeOf231
 v127:=Tryz.zeroValue231
 t5:=Tryz.underlying5
 a5:=Tryz.isAgg5
 z5:=Tryz.sizeOf5
 v5:=Tryz.zeroValue5
 i0:=by kernel_rfl
 i3:=by kernel_rfl
 i4:=by kernel_rfl
 i5:=by kernel_rfl
 i9:=by kernel_rfl
 i37:=by kernel_rfl
 i127:=by kernel_rfl }
open Go.RowKit in
theorem Tryz.stringslite_Clone (s:ByteArray) (w:World) (hlim:s.size≤281474976710656) :
  Calls Tryz.prog 116 #[.string s] w fun e w'=>e=.returned (.string s)∧Below w.heap.size w w':=Any.stringslite_Clone Tryz.laysM316 s w hlim
end Go.Proofs
namespace Go.Proofs.YtmpmfamiegpmgaaGreatDoor
open Tryz
open Go.Lib (cell_of_heap hid)
open Go.RowKit
set_option maxRecDepth 20000
set_option linter.unusedVariables false
set_option linter.unusedSimpArgs false
structure pF (W:World) (g m:Nat) (t:Nat→ByteArray):Prop where
 lt:g < W.heap.size
 at_:∀ i,i < m→W.cell? ⟨g,i,none⟩=some (.string (t i))∧W.frozen? ⟨g,i,none⟩=false
theorem pF.step {W W':World} {g m:Nat} {t:Nat→ByteArray} (h:pF W g m t) (hb:Below W.heap.size W W'):pF W' g m t :=
 ⟨Nat.lt_of_lt_of_le h.lt hb.size,fun i hi=>⟨(hb.cell (p:=⟨g,i,none⟩) h.lt).trans (h.at_ i hi).1,(hb.frozen (p:=⟨g,i,none⟩) h.lt).trans (h.at_ i hi).2⟩⟩
theorem pF.set {W:World} {g m:Nat} {t:Nat→ByteArray} (h:pF W g m t) {j:Nat} (hj:j < m) (x:ByteArray):pF (W.setCell ⟨g,j,none⟩ (.string x)) g m (fun i=>bif i == j then x else t i):=by
 refine ⟨by simpa using h.lt,fun i hi=>⟨?_,?_⟩⟩
 ·by_cases e:i=j
  ·subst e
   rw [World.cell?_setCell_same _ _ _ (h.at_ i hi).1]; simp
  ·rw [World.cell?_setCell_other _ _ _ _ (fun q=>e (Addr.mk.inj q).2.1.symm),(h.at_ i hi).1]
   have:(i == j)=false:=by simpa using e
   rw [this]; rfl
 ·rw [World.frozen?_setCell]; exact (h.at_ i hi).2
def jy (s:ByteArray) (a e:Int):ByteArray:=bif decide (0≤a) && decide (a≤e) && decide (e≤(s.size:Int)) then s.extract a.toNat e.toNat else ⟨#[]⟩
theorem clone_any (s:ByteArray) (w:World) (hlim:s.size≤281474976710656):Calls Tryz.prog 73 #[.string s] w fun e w'=>e=.returned (.string s)∧Below w.heap.size w w':=by
 have H:=Lib.hid (Tryz.stringslite_Clone s w hlim)
 go_enter Tryz.func73,Tryz.ntmps73
 go_wp2_with fail
 refine H.out.mono ?_
 rintro e w' ⟨rfl,hb⟩
 go_wp2_with fail
 go_ret
 exact ⟨rfl,hb⟩
set_option maxHeartbeats 4000000 in
theorem CB (s:ByteArray) (hs:s.size≤1000000) (oa m c:Nat) (hm:m≤10000000) (a e:Nat→Int) (W:World) (hol:oa < W.heap.size)
  (ho:∀ j,j < m→∃ fl sp dc,W.cell? ⟨oa,j * 5,none⟩=some (.int .i64 fl)∧W.cell? ⟨oa,j * 5+1,none⟩=some (.int .i64 (a j))∧W.cell? ⟨oa,j * 5+2,none⟩=some (.int .i64 (e j))∧W.cell? ⟨oa,j * 5+3,none⟩=some (.int .i64 sp)∧W.cell? ⟨oa,j * 5+4,none⟩=some (.bool dc)) :
  Calls Tryz.prog 36 #[.string s,.slice (some ⟨oa,0,none⟩) m c] W fun x W'=>∃ g,x=.returned (.slice (some ⟨g,0,none⟩) m m)∧W.heap.size≤g∧pF W' g m (fun j=>jy s (a j) (e j))∧Below W.heap.size W W':=by
 obtain ⟨i9,hi9,hy0,hy1,hy2⟩:∃ i9,Tryz.prog.info? 9=some i9∧i9.zero=some (.string ⟨#[]⟩)∧i9.size=1∧i9.bytes=16:=by
  refine ⟨_,rfl,?_,?_,?_⟩ <;> kernel_rfl
 have HO:=Lib.hid ho;clear ho
 go_enter Tryz.func36,Tryz.ntmps36
 go_wp2_with (at_make; refine wpList_make_full _ rfl _ _ 49 rfl W.heap.size 9 i9 (.string ⟨#[]⟩) 1 Tryz.underlying49 hi9 hy0 hy1 _ _ _ _ m rfl rfl rfl rfl (by rw [hy2]; omega) (by unfold maxLen; omega) (Nat.le_refl _) ?_; intro w1 hrow1 hg1)
 have hrw:pF w1 W.heap.size m (fun j=>bif decide (j < 0) then jy s (a j) (e j) else ⟨#[]⟩):=by
  refine ⟨World.ownsRow.lt hrow1 _ rfl |>.2,fun i hi=>⟨?_,FT hrow1 i⟩⟩
  ·refine eH hrow1 i _ ?_
   rw [show (Value.string ⟨#[]⟩).cells=#[.string ⟨#[]⟩] from rfl,toList_madeCells_one,Nat.mul_one,List.getElem?_replicate]
   simp [hi]
 have hb1:Below W.heap.size W w1:=(Below.refl _ _).grown hg1 (Nat.le_refl _) (fun j hj=>by cases hj);have HR1:=Lib.hid hrw;have HB1:=Lib.hid hb1;clear hrow1 hg1 hrw hb1
 go_loopw [13] (fun i wr=>∃ k:Nat,k≤m∧i=.int .i64 k∧Hid (pF wr W.heap.size m (fun j=>bif decide (j < k) then jy s (a j) (e j) else ⟨#[]⟩))∧Hid (Below W.heap.size W wr)) (fun i _=>m - (intOf i).toNat)
 case atStart=>exact ⟨0,by omega,rfl,HR1,HB1⟩
 case round =>
  obtain ⟨k,hk,rfl,HR,HB⟩:=hrel
  by_cases hlt:k < m
  ·obtain ⟨fl,sp,dc,q0,q1,q2,q3,q4⟩:=HO.out k hlt
   have hbw:=HB.out;have hsz:=hbw.size;have c0:=(hbw.cell (p:=⟨oa,k * 5,none⟩) hol).trans q0;have c1:=(hbw.cell (p:=⟨oa,k * 5+1,none⟩) hol).trans q1;have c2:=(hbw.cell (p:=⟨oa,k * 5+2,none⟩) hol).trans q2;have c3:=(hbw.cell (p:=⟨oa,k * 5+3,none⟩) hol).trans q3;have c4:=(hbw.cell (p:=⟨oa,k * 5+4,none⟩) hol).trans q4;have Lh:Hid (jy s (a k) (e k)=⟨#[]⟩→pF wr W.heap.size m (fun j=>bif decide (j < k+1) then jy s (a j) (e j) else ⟨#[]⟩)):=Lib.hid fun h=>by
    have e1:(fun j=>bif decide (j < k+1) then jy s (a j) (e j) else (⟨#[]⟩:ByteArray))=(fun j=>bif decide (j < k) then jy s (a j) (e j) else ⟨#[]⟩):=by
     funext j
     by_cases hj:j=k
     ·subst hj; simp [h]
     ·have:decide (j < k+1)=decide (j < k):=by simp; omega
      rw [this]
    rw [e1]; exact HR.out
   have HT:Hid (∀ x,jy s (a k) (e k)=x→∀ wz:World,Below wr.heap.size wr wz→pF (wz.setCell ⟨W.heap.size,k,none⟩ (.string x)) W.heap.size m (fun j=>bif decide (j < k+1) then jy s (a j) (e j) else ⟨#[]⟩)):=Lib.hid fun x h wz hz=>by
    have h2:=(HR.out.step hz).set hlt x;have e1:(fun j=>bif decide (j < k+1) then jy s (a j) (e j) else (⟨#[]⟩:ByteArray))=(fun j=>bif j == k then x else bif decide (j < k) then jy s (a j) (e j) else ⟨#[]⟩):=by
     funext j
     by_cases hj:j=k
     ·subst hj; simp [h]
     ·have:decide (j < k+1)=decide (j < k):=by simp; omega
      have h9:(j == k)=false:=by simpa using hj
      rw [this,h9]; rfl
    rw [e1]; exact h2
   have hnt:jy s (a k) (e k)=(bif decide (0≤a k) && decide (a k≤e k) && decide (e k≤(s.size:Int)) then s.extract (a k).toNat (e k).toNat else ⟨#[]⟩):=rfl;have Yc:=Lib.hid hnt;generalize a k=ak at *;generalize e k=ek at *;have yO:Hid (Below W.heap.size W (wr.alloc (.cells #[.int .i64 fl,.int .i64 ak,.int .i64 ek,.int .i64 sp,.bool dc] 41))):=Lib.hid (hbw.alloc hsz _);clear q0 q1 q2 q3 q4 hbw hnt
   by_cases h0:0≤ak
   ·by_cases h1:ak≤ek
    ·by_cases h2:ek≤(s.size:Int)
     ·obtain ⟨xa,rfl⟩:∃ xa:Nat,ak=xa:=⟨ak.toNat,by omega⟩
      obtain ⟨xe,rfl⟩:∃ xe:Nat,ek=xe:=⟨ek.toNat,by omega⟩
      have s1:xa≤xe:=by omega
      have s2:xe≤s.size:=by omega
      have HE:=Lib.hid (HT.out (s.extract xa xe) (by rw [Yc.out]; simp [s1,s2]));have hxs:(s.extract xa xe).size≤281474976710656:=by simp; omega
      have EK:=Lib.hid (fun W=>clone_any (s.extract xa xe) W hxs);have hfz:=(HR.out.at_ k hlt);have hlg:=HR.out.lt;have ED:Hid (∀ wz:World,Below wr.heap.size wr wz→wz.cell? ⟨W.heap.size,k,none⟩=some (.string ⟨#[]⟩)∧wz.frozen? ⟨W.heap.size,k,none⟩=false):=Lib.hid fun wz hz=>⟨((hz.cell (p:=⟨W.heap.size,k,none⟩) hlg).trans hfz.1).trans (by simp),(hz.frozen (p:=⟨W.heap.size,k,none⟩) hlg).trans hfz.2⟩
      have r1:(0:Int)≤(k:Int):=by omega
      have r2:(k:Int) < (m:Int):=by omega
      have HB0:Hid (Below wr.heap.size wr (wr.alloc (.cells #[.int .i64 fl,.int .i64 (xa:Int),.int .i64 (xe:Int),.int .i64 sp,.bool dc] 41))):=Lib.hid ((Below.refl _ _).alloc (Nat.le_refl _) _);clear hxs hfz
      go_wp2_with fail
      refine (EK.out _).mono ?_
      rintro y w3 ⟨rfl,hb3⟩;have hb4:Below wr.heap.size wr w3:=HB0.out.trans (hb3.mono HB0.out.size);obtain ⟨f1,f2⟩:=ED.out w3 hb4;have HB4:=Lib.hid hb4;generalize hX:s.extract xa xe=X at *;have HX:=Lib.hid hX;clear hb3 hb4 hX
      go_wp2_with fail
      go_roundw
      case rel=>exact ⟨k+1,by omega,by go_num,Lib.hid (HE.out w3 HB4.out),Lib.hid ((HB.out.trans (HB4.out.mono hsz)).setCell (Nat.le_refl _) _)⟩
      case measure=>simp [intOf]; omega
     ·have HE:=Lib.hid (Lh.out (by rw [Yc.out]; simp [h2]))
      go_wp2_with fail
      go_roundw
      case rel=>exact ⟨k+1,by omega,by go_num,Lib.hid (HE.out.step ((Below.refl _ _).alloc (Nat.le_refl _) _)),yO⟩
      case measure=>simp [intOf]; omega
    ·have HE:=Lib.hid (Lh.out (by rw [Yc.out]; simp [h1]))
     go_wp2_with fail
     go_roundw
     case rel=>exact ⟨k+1,by omega,by go_num,Lib.hid (HE.out.step ((Below.refl _ _).alloc (Nat.le_refl _) _)),yO⟩
     case measure=>simp [intOf]; omega
   ·have HE:=Lib.hid (Lh.out (by rw [Yc.out]; simp [h0]))
    go_wp2_with fail
    go_roundw
    case rel=>exact ⟨k+1,by omega,by go_num,Lib.hid (HE.out.step ((Below.refl _ _).alloc (Nat.le_refl _) _)),yO⟩
    case measure=>simp [intOf]; omega
  ·have Yd:k=m:=by omega
   subst Yd
   go_wp2_with fail
   go_ret
   refine ⟨_,rfl,Nat.le_refl _,⟨HR.out.lt,fun i hi=>?_⟩,HB.out⟩
   have:=HR.out.at_ i hi
   rw [decide_eq_true hi] at this;exact this
def fM (l:List fK):List Value:=l.flatMap fK.cells
theorem yE (a b:List fK):fM (a++b)=fM a++fM b:=by simp [fM]
theorem lY (l:List fK):(fM l).length=l.length * 5:=by
 induction l with
 | nil=>rfl
 | cons v r ih=>simp only [fM,List.flatMap_cons,List.length_append] at *; rw [ih]; simp [fK.cells]; omega
theorem jf (l:List fK) (j:Nat) (v:fK) (h:l[j]?=some v) (r:Nat) (hr:r < 5):(fM l)[j * 5+r]?=v.cells[r]?:=by
 induction l generalizing j with
 | nil=>simp at h
 | cons x t ih =>
  have hx:x.cells.length=5:=rfl;simp only [fM,List.flatMap_cons] at *
  cases j with
  | zero =>
   simp only [List.getElem?_cons_zero,Option.some.injEq] at h;subst h;rw [Nat.zero_mul,Nat.zero_add,List.getElem?_append_left (by omega)]
  | succ j =>
   simp only [List.getElem?_cons_succ] at h;rw [List.getElem?_append_right (by omega),show (j+1) * 5+r - x.cells.length=j * 5+r by omega];exact ih j h
theorem DC {W:World} {oa:Nat} {l:List fK} (h:∀ j v,l[j]?=some v→jh W oa (j * 5) v):∀ j u,(fM l)[j]?=some u→W.cell? ⟨oa,j,none⟩=some u:=by
 intro j u hj;have hlt:j < l.length * 5:=by rw [← lY]; exact (List.getElem?_eq_some_iff.1 hj).1
 have hq:j / 5 < l.length:=by omega
 obtain ⟨v,hv⟩:∃ v,l[j / 5]?=some v:=⟨_,List.getElem?_eq_getElem hq⟩
 have hg:=jf l (j / 5) v hv (j % 5) (by omega);have e:j / 5 * 5+j % 5=j:=by omega
 rw [e,hj] at hg;obtain ⟨a0,a1,a2,a3,a4⟩:=h _ v hv;have hr:j % 5=0∨j % 5=1∨j % 5=2∨j % 5=3∨j % 5=4:=by omega
 rcases hr with hr | hr | hr | hr | hr
 ·rw [hr] at hg; rw [show j=j / 5 * 5 by omega,a0,hg]; rfl
 ·rw [hr] at hg; rw [show j=j / 5 * 5+1 by omega,a1,hg]; rfl
 ·rw [hr] at hg; rw [show j=j / 5 * 5+2 by omega,a2,hg]; rfl
 ·rw [hr] at hg; rw [show j=j / 5 * 5+3 by omega,a3,hg]; rfl
 ·rw [hr] at hg; rw [show j=j / 5 * 5+4 by omega,a4,hg]; rfl
theorem Jg {W:World} {base n c g:Nat} {l:List fK} (h:W.ownsRow base 41 5 (.slice (some ⟨g,0,none⟩) n c) n (fM l)) (j:Nat) (v:fK) (hj:l[j]?=some v):jh W g (j * 5) v :=
 ⟨eH h _ _ (jf l j v hj 0 (by omega)),eH h _ _ (jf l j v hj 1 (by omega)),eH h _ _ (jf l j v hj 2 (by omega)),eH h _ _ (jf l j v hj 3 (by omega)),eH h _ _ (jf l j v hj 4 (by omega))⟩
structure PV where
 pc:PC
 os:List fK
structure sG (W:World) (q:PV):Prop where
 m:q.pc.m=q.os.length
 lt:q.pc.oa < W.heap.size
 at_:∀ j v,q.os[j]?=some v→jh W q.pc.oa (j * 5) v
theorem sG.step {W W':World} {q:PV} (h:sG W q) (hb:Below W.heap.size W W'):sG W' q :=
 ⟨h.m,Nat.lt_of_lt_of_le h.lt hb.size,fun j v hj=>(h.at_ j v hj).ext fun r _=>hb.cell (p:=⟨q.pc.oa,_,none⟩) h.lt⟩
def bG (qs:List PV):List fK:=qs.flatMap (·.os)
theorem qX (qs:List PV) (q:PV):bG (qs++[q])=bG qs++q.os:=by simp [bG]
theorem xu (qs:List PV) (k:Nat) (q:PV) (h:qs[k]?=some q):bG (qs.take (k+1))=bG (qs.take k)++q.os:=by
 obtain ⟨hk,e⟩:=List.getElem?_eq_some_iff.1 h;rw [List.take_succ_eq_append_getElem hk,qX,e]
theorem NE (qs:List PV) (k:Nat):(bG (qs.take k)).length≤(bG qs).length:=by
 have h2:(bG (qs.take k++qs.drop k)).length=(bG (qs.take k)).length+(bG (qs.drop k)).length:=by simp only [bG,List.flatMap_append,List.length_append]
 rw [List.take_append_drop] at h2; omega
set_option maxHeartbeats 4000000 in
theorem NJ (W:World) (pu gp:Nat) (qs:List PV) (hu:UAt W pu gp (qs.map PV.pc)) (hq:∀ q ∈ qs,sG W q) (hN:(bG qs).length≤10000000) (hL:qs.length≤100000) :
  Calls Tryz.prog 49 #[.pointer (some ⟨pu,0,none⟩)] W fun e W'=>∃ v,e=.returned v∧W'.ownsRow W.heap.size 41 5 v (bG qs).length (fM (bG qs))∧Below W.heap.size W W':=by
 obtain ⟨i41,Px,hy0,hy1,hy2⟩:∃ i41,Tryz.prog.info? 41=some i41∧i41.zero=some (.agg #[.int .i64 0,.int .i64 0,.int .i64 0,.int .i64 0,.bool false])∧i41.size=5∧i41.bytes=40:=by
  refine ⟨_,rfl,?_,?_,?_⟩ <;> kernel_rfl
 have HA:=Lib.hid (pO W pu _ hu.u);have HU:=Lib.hid hu;have HQ:=Lib.hid hq;rw [List.length_map] at HA;clear hu hq
 go_enter Tryz.func49,Tryz.ntmps49
 go_wp2_with fail
 refine HA.out.mono ?_
 rintro e w1 ⟨rfl,rfl⟩
 go_wp2_with fail
 go_loopw [3,9] (fun v i wr=>∃ k:Nat,k≤qs.length∧i=.int .i64 k∧Hid (wr.ownsRow W.heap.size 41 5 v (bG (qs.take k)).length (fM (bG (qs.take k))))∧Hid (Below W.heap.size W wr)) (fun _ i _=>qs.length - (intOf i).toNat)
 case atStart=>exact ⟨0,by omega,rfl,Lib.hid ⟨rfl,.inl ⟨rfl,rfl⟩⟩,Lib.hid (Below.refl _ _)⟩
 case round =>
  obtain ⟨k,hk,rfl,HR,HB⟩:=hrel
  by_cases hlt:k < qs.length
  ·obtain ⟨q,hqk⟩:∃ q,qs[k]?=some q:=⟨_,List.getElem?_eq_getElem hlt⟩
   have hpk:(qs.map PV.pc)[k]?=some q.pc:=by rw [List.getElem?_map,hqk]; rfl
   have hbw:=HB.out;have hu2:=HU.out.step hbw;obtain ⟨p0,p1,p2,p3,p4,p5,p6,p7,p8,p9⟩:=hu2.part k q.pc hpk;have hqa:=(HQ.out q (List.mem_of_getElem? hqk)).step hbw;have hsz:=hbw.size;have htk:=xu qs k q hqk;have hle:=NE qs (k+1);rw [htk,List.length_append] at hle;have hm:=hqa.m;obtain ⟨⟨⟨nm,tx⟩,⟨hk0,hm0,hf0,ht0,np,nn,nc,ns,kp,kn,kc⟩,first,oa,m⟩,os⟩:=q
   simp only at p0 p1 p2 p3 p4 p5 p6 p7 p8 p9 hm hle
   obtain ⟨WB,ug⟩:∃ WB,WB=wr.alloc (.cells #[.string nm,.string tx,.int .i64 hk0,.int .i64 hm0,.int .i64 hf0,.int .i64 ht0,.slice np nn nc,.slice kp kn kc,.int .i64 first,.slice (some ⟨oa,0,none⟩) m m] 132):=⟨_,rfl⟩
   have hb0:Below wr.heap.size wr WB:=by rw [ug]; exact (Below.refl _ _).alloc (Nat.le_refl _) _
   have hbc:∀ j:Nat,WB.cell? ⟨wr.heap.size,j,none⟩=(#[.string nm,.string tx,.int .i64 hk0,.int .i64 hm0,.int .i64 hf0,.int .i64 ht0,.slice np nn nc,.slice kp kn kc,.int .i64 first,.slice (some ⟨oa,0,none⟩) m m]:Array Value)[j]?:=fun j=>by rw [ug]; exact Lib.cell_of_heap (heap_alloc_new wr _) j
   have b9:WB.cell? ⟨wr.heap.size,9,none⟩=some (.slice (some ⟨oa,0,none⟩) m m):=hbc 9;have hrow:WB.ownsRow W.heap.size 41 5 u3 (bG (qs.take k)).length (fM (bG (qs.take k))):=by rw [ug]; exact HR.out.alloc _
   have hnews:∀ j u,(fM os)[j]?=some u→WB.cell? ((⟨oa,0,none⟩:Addr).add j)=some u:=fun j u hj=>by
    have ha:((⟨oa,0,none⟩:Addr).add j)=⟨oa,j,none⟩:=by unfold Addr.add; split <;> simp_all
    rw [ha];exact DC (fun j v hv=>((hqa.step hb0).at_ j v hv)) j u hj
   have h1:∀ u ∈ fM os,u.oneCell'=true:=fun u hu=>by
    obtain ⟨v,_,hv⟩:=List.mem_flatMap.1 hu;simp only [fK.cells,List.mem_cons,List.not_mem_nil,or_false] at hv
    rcases hv with rfl | rfl | rfl | rfl | rfl <;> rfl
   have uN:Hid (Below W.heap.size W WB):=Lib.hid (hbw.trans (hb0.mono hsz));have hbz:=uN.out.size;have Hz:=Lib.hid htk;have O4:=Lib.hid ug;have hlen:=lY os;obtain ⟨N0,hN0⟩:∃ N0,N0=(bG (qs.take k)).length:=⟨_,rfl⟩
   rw [← hN0] at hrow hle;have Sm:=Lib.hid hN0;have hmn:(fM os).length=m * 5:=by rw [hlen,hm]
   have hNm:N0+m≤10000000:=by omega
   clear hN0 htk hlen hbw hu2 hqa hbc hpk hm hle hb0 hqk ug
   go_upto_region 5 with (fail)
   rw [← O4.out]
   go_wp2_with (first
    | (at_builtin; refine wpList_append_own _ rfl _ _ 27 rfl W.heap.size 41 i41 _ 5 40 Tryz.underlying27 Px hy0 hy1 hy2 rfl (by decide) _ _ _ rfl hrow ⟨oa,0,none⟩ m m (fM os) rfl hmn hnews h1 (by unfold maxLen; omega) (by omega) hbz ?_; intro v' w3 hown' hg3 hnil3)
    | go_in)
   have HO':=Lib.hid hown';have jW:=Lib.hid (uN.out.grown hg3 hbz (fun j hj=>(World.ownsRow.lt hrow j hj).1));clear hown' hg3 hnil3 hrow hnews
   go_roundw
   case rel =>
    refine ⟨k+1,by omega,by go_num,Lib.hid ?_,jW⟩
    rw [Hz.out,yE,List.length_append,← Sm.out]
    have:=HO'.out
    rw [show os.length=m by rw [lY] at hmn; omega];exact this
   case measure=>simp [intOf]; omega
  ·have hkn:k=qs.length:=by omega
   have HR2:Hid (wr.ownsRow W.heap.size 41 5 u3 (bG qs).length (fM (bG qs))):=Lib.hid (by have:=HR.out; rw [hkn,List.take_length] at this; exact this);clear HR;have hlt2:¬ (k:Int) < (qs.length:Int):=by omega
   clear hkn
   go_wp2_with fail
   go_ret
   exact ⟨_,rfl,HR2.out,HB.out⟩
structure PtW (K:Nat) (fs:List bn) (Good:Nat→bn→Int→PV→Br→Prop) (qs:List PV) (W:World) (i:Nat) (q:PV) (nd:Br):Prop where
 pv:sG W q
 oal:K≤q.pc.oa
 file:fs[i]?=some q.pc.f
 first:q.pc.first=(bG (qs.take i)).length
 hd:q.pc.h=nd.h
 lies:nd.Lies W
 on:nd.On fun b=>K≤b
 good:Good i q.pc.f q.pc.first q nd
structure LdS (B:World) (gp n:Nat) (fs:List bn) (Good:Nat→bn→Int→PV→Br→Prop) (qs:List PV) (nds:List Br) (W:World):Prop where
 gr:B.grownBy W (some gp)
 gl:gp < B.heap.size
 th:W.there gp 0 (n * 10)
 len:nds.length=qs.length
 le:qs.length≤n
 pc:∀ i q,qs[i]?=some q→Ip W gp (i * 10) q.pc
 pt:∀ i q nd,qs[i]?=some q→nds[i]?=some nd→PtW B.heap.size fs Good qs W i q nd
theorem wK {W W':World} {b o n:Nat} (h:W.there b o n) (he:W'.heap[b]?=W.heap[b]?):W'.there b o n:=fun j hj=>by
 have:=h j hj
 simp only [World.cell?,World.frozen?] at this ⊢;rw [he]; exact this
theorem sG.grown {W W':World} {q:PV} {gp:Nat} (h:sG W q) (hg:W.grownBy W' (some gp)) (hne:q.pc.oa≠gp):sG W' q :=
 ⟨h.m,Nat.lt_of_lt_of_le h.lt hg.size,fun j v hj=>(h.at_ j v hj).ext fun r _=>World.cell?_of_block (a:=⟨q.pc.oa,_,none⟩) (hg.block _ h.lt (fun e=>hne (Option.some.inj e)))⟩
section
variable {B W W':World} {gp n:Nat} {fs:List bn} {Good:Nat→bn→Int→PV→Br→Prop} {qs:List PV} {nds:List Br}
theorem PtW.grown {K i:Nat} {q:PV} {nd:Br} (h:PtW K fs Good qs W i q nd) (hg:W.grownBy W' (some gp)) (hK:gp < K):PtW K fs Good qs W' i q nd:=by
 have:=h.oal
 exact ⟨h.pv.grown hg (by omega),h.oal,h.file,h.first,h.hd,Br.Lies.kept _ hg.size (fun b hb hlt=>hg.block b hlt (fun e=>by have:=Option.some.inj e; omega)) h.on h.lies,h.on,h.good⟩
theorem LdS.below (h:LdS B gp n fs Good qs nds W) (hb:Below W.heap.size W W'):LdS B gp n fs Good qs nds W':=by
 have hgl:=Nat.lt_of_lt_of_le h.gl h.gr.size;exact ⟨ae h.gr (grown_below hb _),h.gl,wK h.th (hb.block gp hgl),h.len,h.le,fun i q hi=>(h.pc i q hi).ext fun j _=>hb.cell (p:=⟨gp,_,none⟩) hgl,fun i q nd hi hj=>(h.pt i q nd hi hj).grown (grown_below hb _) h.gl⟩
theorem LdS.put (h:LdS B gp n fs Good qs nds W) {q:PV} {nd:Br} (hlt:qs.length < n) (hq:PtW B.heap.size fs Good qs W qs.length q nd):LdS B gp n fs Good (qs++[q]) (nds++[nd]) (W.setCells gp (qs.length * 10) q.pc.cells):=by
 have hg:W.grownBy (W.setCells gp (qs.length * 10) q.pc.cells) (some gp):=gW gp _ _ _;have hth:∀ j,j < 10→(W.cell? ⟨gp,qs.length * 10+j,none⟩).isSome=true:=fun j hj=>by
  have:=(h.th (qs.length * 10+j) (by omega)).1
  rwa [Nat.zero_add] at this
 have hin:=World.cell?_setCells_in gp q.pc.cells (qs.length * 10) W (fun j hj=>hth j hj);have hpc:Ip (W.setCells gp (qs.length * 10) q.pc.cells) gp (qs.length * 10) q.pc :=
  ⟨hin 0 (by show 0 < 10; omega),hin 1 (by show 1 < 10; omega),hin 2 (by show 2 < 10; omega),hin 3 (by show 3 < 10; omega),hin 4 (by show 4 < 10; omega),hin 5 (by show 5 < 10; omega),hin 6 (by show 6 < 10; omega),hin 7 (by show 7 < 10; omega),hin 8 (by show 8 < 10; omega),hin 9 (by show 9 < 10; omega)⟩
 have htk:∀ i,i≤qs.length→(qs++[q]).take i=qs.take i:=fun i hi=>List.take_append_of_le_length hi
 refine ⟨ae h.gr hg,h.gl,?_,by simp [h.len],by simp; omega,fun i p hi=>?_,fun i p nd' hi hj=>?_⟩
 ·intro j hj
  have h0:=h.th j hj;refine ⟨?_,by rw [World.frozen?_setCells]; exact h0.2⟩
  by_cases hr:qs.length * 10≤0+j∧0+j < qs.length * 10+10
  ·have:=hin (0+j - qs.length * 10) (by show _ < 10; omega)
   rw [show qs.length * 10+(0+j - qs.length * 10)=0+j by omega] at this;rw [this]; rfl
  ·rw [World.cell?_setCells_out _ _ _ _ _ (fun _ _=>by simp only [PC.cells,List.length_cons,List.length_nil]; omega)]; exact h0.1
 ·by_cases hi2:i < qs.length
  ·rw [List.getElem?_append_left hi2] at hi
   exact (h.pc i p hi).ext fun j _=>World.cell?_setCells_out _ _ _ _ _ (fun _ _=>by simp only [PC.cells,List.length_cons,List.length_nil]; omega)
  ·have hi3:=(List.getElem?_eq_some_iff.1 hi).1
   simp at hi3
   obtain rfl:i=qs.length:=by omega
   simp at hi
   subst hi;exact hpc
 ·by_cases hi2:i < qs.length
  ·rw [List.getElem?_append_left hi2] at hi
   rw [List.getElem?_append_left (by rw [h.len]; exact hi2)] at hj;have h1:=(h.pt i p nd' hi hj).grown hg h.gl;exact { h1 with first:=by rw [htk i (by omega)]; exact h1.first }
  ·have hi3:=(List.getElem?_eq_some_iff.1 hi).1
   simp at hi3
   obtain rfl:i=qs.length:=by omega
   simp at hi
   subst hi;rw [← h.len] at hj;simp at hj
   subst hj;have h1:=hq.grown hg h.gl;exact { h1 with first:=by rw [htk _ (Nat.le_refl _)]; exact h1.first }
end
structure kK (K:Nat) (fs:List bn) (Good:Nat→bn→Int→PV→Br→Prop) (pu gp:Nat) (qs:List PV) (nds:List Br) (W:World):Prop where
 u:UAt W pu gp (qs.map PV.pc)
 len:qs.length=fs.length
 lenn:nds.length=qs.length
 pl:K≤pu
 gl:K≤gp
 pt:∀ i q nd,qs[i]?=some q→nds[i]?=some nd→PtW K fs Good qs W i q nd
def SA (Err:ByteArray→Int→Int→Prop) (Good:Nat→bn→Int→PV→Br→Prop) (i:Nat) (f:bn) (first:Int) (W:World) (x:Ending) (W':World):Prop :=
 Below W.heap.size W W'∧((∃ a c,c≠0∧Err f.2 a c∧x=.returned (.tuple #[.agg #[.int .i64 0,.int .i64 0,.int .i64 0,.int .i64 0,.slice none 0 0,.slice none 0 0],.slice none 0 0,.int .i64 a,.int .i64 c])) ∨
  ∃ (q:PV) (nd:Br),Good i f first q nd∧q.pc.f=f∧q.pc.first=first∧q.pc.h=nd.h∧nd.Lies W'∧(nd.On fun b=>W.heap.size≤b)∧W.heap.size≤q.pc.oa∧sG W' q∧q.os.length≤f.2.size∧x=.returned (.tuple #[nd.h.val,.slice (some ⟨q.pc.oa,0,none⟩) q.pc.m q.pc.m,.int .i64 0,.int .i64 0]))
def BX (fs:List bn) (t:Nat) (Err:ByteArray→Int→Int→Prop) (Good:Nat→bn→Int→PV→Br→Prop) (W:World) (x:Ending) (W':World):Prop :=
 Below W.heap.size W W'∧((∃ k f,k≠0∧Eh fs t k f∧x=.returned (.tuple #[.pointer none,.agg #[.int .i64 k,.int .i64 f,.int .i64 0]])) ∨
  (Eh fs t 0 0∧∃ (i:Nat) (f:bn) (a c:Int),fs[i]?=some f∧c≠0∧Err f.2 a c∧(∃ (qs:List PV) (nds:List Br),qs.length=i∧nds.length=i∧∀ j q nd,qs[j]?=some q→nds[j]?=some nd→∃ g,fs[j]?=some g∧Good j g (bG (qs.take j)).length q nd)∧x=.returned (.tuple #[.pointer none,.agg #[.int .i64 c,.int .i64 i,.int .i64 a]])) ∨
  (Eh fs t 0 0∧∃ pu gp qs nds,kK W.heap.size fs Good pu gp qs nds W'∧x=.returned (.tuple #[.pointer (some ⟨pu,0,none⟩),.agg #[.int .i64 0,.int .i64 0,.int .i64 0]])))
theorem uh {W:World} {b:Nat} (h:W.heap[b]?=some (.cells #[.int .i64 0,.int .i64 0,.int .i64 0] 65)) (v0 v1 v2:Value) :
  W.there b 0 3∧(W.setCells b 0 [v0,v1,v2]).cell? ⟨b,0,none⟩=some v0∧(W.setCells b 0 [v0,v1,v2]).cell? ⟨b,1,none⟩=some v1∧(W.setCells b 0 [v0,v1,v2]).cell? ⟨b,2,none⟩=some v2:=by
 have hth:W.there b 0 3:=fun j hj=>by
  refine ⟨?_,by simp only [World.frozen?]; rw [h]; simp⟩
  rw [Lib.cell_of_heap h,Array.getElem?_eq_getElem (by simpa using hj)]
  rfl
 have hin:=World.cell?_setCells_in b [v0,v1,v2] 0 W (fun j hj=>(hth j hj).1);exact ⟨hth,hin 0 (by show 0 < 3; omega),hin 1 (by show 1 < 3; omega),hin 2 (by show 2 < 3; omega)⟩
set_option maxHeartbeats 8000000 in
theorem Q5 (Err:ByteArray→Int→Int→Prop) (Good:Nat→bn→Int→PV→Br→Prop) (fs:List bn) (t:Nat) (p:Option Addr) (n cap:Nat) (W:World) (hk:Kw W)
  (HF:∀ (i:Nat) (f:bn) (first:Int) (w:World),fs[i]?=some f→0≤first→first≤1000000→Kw w→Calls Tryz.prog 17 #[.string f.2,.int .i64 i,.int .i64 first] w (SA Err Good i f first w))
  (hf:FIn W p n cap fs) (hlim:n≤100000) (hsz:sumT fs≤1000000) (hnm:∀ f ∈ fs,f.1.size≤9223372036854775807) (ht:jT (fs.map (·.1)) t) :
  Calls Tryz.prog 39 #[.slice p n cap] W (BX fs t Err Good W):=by
 obtain ⟨W1,hW1⟩:∃ W1,W1=W.alloc (.cells #[.int .i64 0,.int .i64 0,.int .i64 0] 65):=⟨_,rfl⟩
 have hb1:Below W.heap.size W W1:=by rw [hW1]; exact (Below.refl _ _).alloc (Nat.le_refl _) _
 have hz1:W1.heap.size=W.heap.size+1:=by rw [hW1]; simp
 have hf1:FIn W1 p n cap fs:=by
  obtain ⟨h1,h0 | ⟨b,o,h2,h3,h4,h5⟩⟩:=hf
  ·exact ⟨h1,.inl h0⟩
  ·exact ⟨h1,.inr ⟨b,o,h2,h3,by omega,fun i f hi=>⟨(hb1.cell (p:=⟨b,_,none⟩) h4).trans (h5 i f hi).1,(hb1.cell (p:=⟨b,_,none⟩) h4).trans (h5 i f hi).2⟩⟩⟩
 have HR:=Lib.hid (Dl fs t p n cap W1 hf1 hlim (by omega) hnm ht);have hrx:W1.heap[W.heap.size]?=some (.cells #[.int .i64 0,.int .i64 0,.int .i64 0] 65):=by rw [hW1]; exact heap_alloc_new W _
 have HB1:=Lib.hid hb1;have AV:=Lib.hid hrx;have qm:=Lib.hid HF;have HFI:=Lib.hid hf;have HW1:Hid (W.alloc (.cells #[.int .i64 0,.int .i64 0,.int .i64 0] 65)=W1):=Lib.hid hW1.symm;have HK:=Lib.hid hk;clear hb1 hrx HF hf hf1 hnm ht hk hW1
 go_enter Tryz.func39,Tryz.ntmps39
 go_wp2_with fail
 rw [HW1.out];refine HR.out.mono ?_
 rintro x w2 ⟨k,f,hrk,rfl,hb2⟩;have hz2:=hb2.size;have TW:=Lib.hid hrk;have HB2:=Lib.hid (HB1.out.trans (hb2.mono (by omega)));have Lt:=(hb2.block W.heap.size (by omega)).trans AV.out;have WI:=Lib.hid Lt;clear hrk hb2 Lt HR
 by_cases hk0:k=0
 ·subst hk0
  obtain rfl:f=0:=by rcases TW.out with ⟨_,h,_⟩ | ⟨_,_,h,_⟩ | ⟨_,_,_,h⟩ <;> omega
  obtain ⟨i132,Bz,hy0,hy1,hy2⟩:∃ i,Tryz.prog.info? 132=some i∧i.zero=some (.agg #[.string ⟨#[]⟩,.string ⟨#[]⟩,.int .i64 0,.int .i64 0,.int .i64 0,.int .i64 0,.slice none 0 0,.slice none 0 0,.int .i64 0,.slice none 0 0])∧i.size=10∧i.bytes=144:=by
   refine ⟨_,rfl,?_,?_,?_⟩ <;> kernel_rfl
  obtain ⟨W3,hW3⟩:∃ W3,W3=w2.alloc (.cells #[.int .i64 0,.int .i64 0,.int .i64 0] 65):=⟨_,rfl⟩
  have hb3:Below W.heap.size W W3:=by rw [hW3]; exact HB2.out.alloc (by omega) _
  have hz3:W.heap.size < W3.heap.size:=by rw [hW3]; simp; omega
  have Bq:W3.heap[W.heap.size]?=some (.cells #[.int .i64 0,.int .i64 0,.int .i64 0] 65):=by rw [hW3,heap_alloc_old _ _ (by omega)]; exact WI.out
  have HB3:=Lib.hid hb3;have ZM:=Lib.hid Bq;have HW3:=Lib.hid hW3;clear hb3 Bq hW3
  go_upto_region 4 with (fail)
  rw [← HW3.out]
  go_wp2_with (first
   | (at_make; refine wpList_make_full _ rfl _ _ 128 rfl W3.heap.size 132 i132 _ 10 Tryz.underlying128 Bz hy0 hy1 _ _ _ _ n rfl rfl rfl rfl (by rw [hy2]; omega) (by unfold maxLen; omega) (Nat.le_refl _) ?_; intro w4 hrow4 hg4)
   | go_in)
  have O8:=hg4.size;have ZN:W3.heap.size < w4.heap.size:=(World.ownsRow.lt hrow4 _ rfl).2;have hb4:Below W.heap.size W w4:=HB3.out.grown hg4 (by omega) (fun j hj=>by cases hj);have WJ:w4.there W3.heap.size 0 (n * 10):=fun j hj=>by
   obtain ⟨hl,⟨h0,_⟩ | ⟨g',c',cur,hv,hb,hh,hle,hm,hs,ht⟩⟩:=hrow4
   ·cases h0
   ·simp only [Value.slice.injEq,Option.some.injEq,Addr.mk.injEq,and_true,true_and] at hv
    obtain ⟨rfl,rfl⟩:=hv;refine ⟨?_,by simp [World.frozen?,hh]⟩
    rw [Lib.cell_of_heap hh,Nat.zero_add,Array.getElem?_eq_getElem (by omega)]; rfl
  have WL:w4.heap[W.heap.size]?=some (.cells #[.int .i64 0,.int .i64 0,.int .i64 0] 65):=(hg4.block _ hz3 (by simp)).trans ZM.out;obtain ⟨W5,O3⟩:∃ W5,W5=w4.alloc (.cells #[.slice (some ⟨W3.heap.size,0,none⟩) n n] 130):=⟨_,rfl⟩
  obtain ⟨gp,TE⟩:∃ gp,gp=W3.heap.size:=⟨_,rfl⟩
  obtain ⟨pu,hpu⟩:∃ pu,pu=w4.heap.size:=⟨_,rfl⟩
  have hpc:W5.cell? ⟨pu,0,none⟩=some (.slice (some ⟨gp,0,none⟩) n n):=by rw [O3,hpu,TE,Lib.cell_of_heap (heap_alloc_new w4 _)]; rfl
  have LG:Below w4.heap.size w4 W5:=by rw [O3]; exact (Below.refl _ _).alloc (Nat.le_refl _) _
  have AO:pu < W5.heap.size:=by rw [O3,hpu]; simp
  have hb5:Below W.heap.size W W5:=hb4.trans (LG.mono (by omega));have WM:=(LG.block W.heap.size (by omega)).trans WL;have WN:W5.there gp 0 (n * 10):=by rw [TE]; exact wK WJ (LG.block _ ZN)
  have hne:pu≠gp:=by omega
  have adw:W.heap.size < gp:=by omega
  have ZO:gp < W5.heap.size:=by have:=LG.size; omega
  have HPC:=Lib.hid hpc;have yP:=Lib.hid hb5;have ZP:=Lib.hid WM;have ZQ:=Lib.hid WN;have HN:Hid (n=fs.length):=Lib.hid HFI.out.1;have HW5:=Lib.hid O3;have WO:Hid (∀ wr:World,W5.grownBy wr (some gp)→Below W.heap.size W wr∧wr.heap[W.heap.size]?=some (.cells #[.int .i64 0,.int .i64 0,.int .i64 0] 65)∧wr.cell? ⟨pu,0,none⟩=some (.slice (some ⟨gp,0,none⟩) n n)):=Lib.hid fun wr hg =>
   ⟨yP.out.grown hg yP.out.size (fun j hj=>by have:=Option.some.inj hj; omega),(hg.block _ (by omega) (fun e=>by have:=Option.some.inj e; omega)).trans ZP.out,(World.cell?_of_block (a:=⟨pu,0,none⟩) (hg.block pu AO (fun e=>hne (Option.some.inj e)))).trans HPC.out⟩
  have e5:w4.alloc (.cells #[.slice (some ⟨gp,0,none⟩) n n] 130)=W5:=by rw [O3,TE]
  rw [← TE,← hpu,e5];have HGP:Hid (W.heap.size < pu∧pu < W5.heap.size):=Lib.hid ⟨by omega,AO⟩;clear e5 hrow4 hg4 hb4 WJ WL O3 hpc LG hb5 WM WN TE hpu hy0 Bz hy1 hy2
  go_loopw [6,26] (fun v i wr=>∃ (k:Nat) (qs:List PV) (nds:List Br),k≤n∧i=.int .i64 k∧v=.int .i64 ((bG qs).length:Int)∧Hid (qs.length=k)∧Hid ((bG qs).length≤sumT (fs.take k))∧Hid (LdS W5 gp n fs Good qs nds wr)) (fun _ i _=>n - (intOf i).toNat)
  case atStart=>exact ⟨0,[],[],by omega,rfl,rfl,Lib.hid rfl,Lib.hid (by simp [bG]),Lib.hid ⟨dZ _ _,ZO,ZQ.out,rfl,by simp,fun i q h=>by simp at h,fun i q nd h=>by simp at h⟩⟩
  case round =>
   obtain ⟨k,qs,nds,hk,rfl,rfl,HQ,HS,HL⟩:=hrel;have hst:=vM fs k;have hsl:=HS.out;have hgr:=HL.out.gr;have hgz:=hgr.size;obtain ⟨hbw,hrr,hpp⟩:=WO.out wr hgr;have HRR:=Lib.hid hrr
   by_cases hlt:k < n
   ·have hkl:k < fs.length:=by have:=HN.out; omega
    obtain ⟨f,hfk⟩:∃ f,fs[k]?=some f:=⟨_,List.getElem?_eq_getElem hkl⟩
    obtain ⟨hnn,h0 | ⟨b,o,rfl,hcn,hbl,hat⟩⟩:=HFI.out
    ·omega
    clear hnn;obtain ⟨q0,q1⟩:=hat k f hfk;have p0:=(hbw.cell (p:=⟨b,o+k * 2,none⟩) hbl).trans q0;have p1:=(hbw.cell (p:=⟨b,o+k * 2+1,none⟩) hbl).trans q1;obtain ⟨WB,ug⟩:∃ WB,WB=wr.alloc (.cells #[.string f.1,.string f.2] 76):=⟨_,rfl⟩
    have hbb:Below wr.heap.size wr WB:=by rw [ug]; exact (Below.refl _ _).alloc (Nat.le_refl _) _
    have hwz:W.heap.size≤wr.heap.size:=hbw.size;have hbz:wr.heap.size < WB.heap.size:=by rw [ug]; simp
    have hbc:∀ j:Nat,WB.cell? ⟨wr.heap.size,j,none⟩=(#[.string f.1,.string f.2]:Array Value)[j]?:=fun j=>by rw [ug]; exact Lib.cell_of_heap (heap_alloc_new wr _) j
    have b0:WB.cell? ⟨wr.heap.size,0,none⟩=some (.string f.1):=hbc 0;have b1:WB.cell? ⟨wr.heap.size,1,none⟩=some (.string f.2):=hbc 1;have TY:Below W.heap.size W WB:=hbw.trans (hbb.mono hwz);have Ye:=Lib.hid (qm.out k f ((bG qs).length:Int) WB hfk (by omega) (by omega) (HK.out.step TY));have uN:=Lib.hid hbb;have ZR:=Lib.hid TY;have HB0:=Lib.hid b0;have HB1':=Lib.hid b1;have Yf:=Lib.hid hfk;have O4:=Lib.hid ug;have hN9:(bG qs).length≤1000000:=by omega
    obtain ⟨N0,hN0⟩:∃ N0,N0=(bG qs).length:=⟨_,rfl⟩
    rw [← hN0] at Ye hN9 ⊢;have Sm:=Lib.hid hN0;obtain ⟨nm,tx⟩:=f
    simp only at Ye HB0 HB1' b0 b1 p0 p1 O4
    clear hN0 q0 q1 hat hfk ug hbb TY hbc hsl hbw hgr hrr hkl
    go_upto_region 9 with (fail)
    rw [← O4.out]
    go_wp2_with fail
    refine Ye.out.mono ?_
    rintro x w6 ⟨hb6,hcase⟩;have KC:=Lib.hid hb6;have U7:=hb6.size;clear hb6 Ye p0 p1
    rcases hcase with ⟨a,c,hc0,herr,rfl⟩ | ⟨q,nd,hgood,ZT,hq1,ZU,hnl,hno,hqo,Yg,Vd,rfl⟩
    ·have hc1:(c != 0)=true:=by simpa using hc0
     have HC0:=Lib.hid hc0;have ZV:=Lib.hid herr;clear hc0 herr;obtain ⟨W7,Sr⟩:∃ W7,W7=w6.alloc (.cells #[.int .i64 0,.int .i64 0,.int .i64 0,.int .i64 0,.slice none 0 0,.slice none 0 0] 26):=⟨_,rfl⟩
     have hb7:Below WB.heap.size WB W7:=by rw [Sr]; exact KC.out.alloc U7 _
     have WP:W7.heap[W.heap.size]?=some (.cells #[.int .i64 0,.int .i64 0,.int .i64 0] 65):=by
      rw [hb7.block _ (by omega),uN.out.block _ (by omega)]; exact HRR.out
     obtain ⟨e1,e2,e3,e4⟩:=uh WP (.int .i64 c) (.int .i64 k) (.int .i64 a);have TZ:Below W.heap.size W W7:=ZR.out.trans (hb7.mono (by omega));have pR:Hid (Below W.heap.size W (W7.setCells W.heap.size 0 [.int .i64 c,.int .i64 k,.int .i64 a])):=Lib.hid (TZ.grown (gW W.heap.size _ 0 _) TZ.size (fun j hj=>by have:=Option.some.inj hj; omega));obtain ⟨WX,mr⟩:∃ WX,WX=W7.setCells W.heap.size 0 [.int .i64 c,.int .i64 k,.int .i64 a]:=⟨_,rfl⟩
     rw [← mr] at pR e2 e3 e4;have yA:=Lib.hid mr;have WQ:=Lib.hid Sr;obtain ⟨i0,hi0,hy0⟩:∃ i0,Tryz.prog.info? 65=some i0∧i0.size=3:=by refine ⟨_,rfl,?_⟩; kernel_rfl
     have vU:(Tryz.prog.info? 65).map (·.size)=some 3:=by rw [hi0]; simp [hy0]
     have Bv:=Lib.hid vU;have Ll:=Lib.hid e1;clear hb7 WP TZ mr Sr e1 vU hi0 hy0
     go_upto_region 10 with (fail)
     rw [← WQ.out]
     go_wp2_with (first
      | (refine wpList_store_mid rfl 65 (.tmp 3) (.tmp 46) rfl W.heap.size 0 #[.int .i64 c,.int .i64 k,.int .i64 a] rfl rfl Ll.out Bv.out (by simp [Value.oneCell']) ?_; show wpList _ _ _ _ _ (W7.setCells W.heap.size 0 [.int .i64 c,.int .i64 k,.int .i64 a]); rw [← yA.out])
      | go_in)
     refine bodyPost_ret (v:=.tuple #[.pointer none,.agg #[.int .i64 c,.int .i64 k,.int .i64 a]]) (by simp [results,Tryz.results39,go_sem,e2,e3,e4,Result.andThen]; try rfl) rfl ?_
     refine ⟨pR.out,.inr (.inl ⟨TW.out,k,(nm,tx),a,c,Yf.out,HC0.out,ZV.out,⟨qs,nds,HQ.out,by rw [HL.out.len]; exact HQ.out,fun j q nd hj hj2=>?_⟩,rfl⟩)⟩
     have hp:=HL.out.pt j q nd hj hj2;exact ⟨_,hp.file,by have:=hp.good; rw [hp.first] at this; exact this⟩
    ·obtain ⟨⟨hk0,hm0,hf0,ht0,np,nn,nc,ns,kp,kn,kc⟩,hhd⟩:∃ h,h=nd.h:=⟨_,rfl⟩
     obtain ⟨⟨⟨qn,qt⟩,qh,qfirst,oa,m⟩,os⟩:=q
     simp only at ZT hq1 ZU hqo Yg Vd
     obtain ⟨rfl,rfl⟩:=Prod.mk.inj ZT;rw [← hhd] at ZU ⊢;subst ZU;subst hq1;obtain ⟨W7,Sr⟩:∃ W7,W7=w6.alloc (.cells #[.int .i64 hk0,.int .i64 hm0,.int .i64 hf0,.int .i64 ht0,.slice np nn nc,.slice kp kn kc] 26):=⟨_,rfl⟩
     have PP:Below w6.heap.size w6 W7:=by rw [Sr]; exact (Below.refl _ _).alloc (Nat.le_refl _) _
     have hb7:Below WB.heap.size WB W7:=KC.out.trans (PP.mono U7);have hnc:=Lib.cell_of_heap (heap_alloc_new w6 (.cells #[.int .i64 hk0,.int .i64 hm0,.int .i64 hf0,.int .i64 ht0,.slice np nn nc,.slice kp kn kc] 26));rw [← Sr] at hnc;have n0:W7.cell? ⟨w6.heap.size,0,none⟩=some (.int .i64 hk0):=hnc 0;have n1:W7.cell? ⟨w6.heap.size,1,none⟩=some (.int .i64 hm0):=hnc 1;have n2:W7.cell? ⟨w6.heap.size,2,none⟩=some (.int .i64 hf0):=hnc 2;have n3:W7.cell? ⟨w6.heap.size,3,none⟩=some (.int .i64 ht0):=hnc 3;have n4:W7.cell? ⟨w6.heap.size,4,none⟩=some (.slice np nn nc):=hnc 4;have n5:W7.cell? ⟨w6.heap.size,5,none⟩=some (.slice kp kn kc):=hnc 5;have f0:W7.cell? ⟨wr.heap.size,0,none⟩=some (.string qn):=(hb7.cell (p:=⟨wr.heap.size,0,none⟩) hbz).trans HB0.out;have f1:W7.cell? ⟨wr.heap.size,1,none⟩=some (.string qt):=(hb7.cell (p:=⟨wr.heap.size,1,none⟩) hbz).trans HB1'.out;have hL7:=(HL.out.below uN.out).below hb7;have ZW:LdS W5 gp n fs Good qs nds W7.drew:=hL7.below ((Below.refl _ _).drew);have u0:=(WO.out W7 hL7.gr).2.2;have hq8:PtW W5.heap.size fs Good qs W7.drew qs.length ⟨⟨(qn,qt),⟨hk0,hm0,hf0,ht0,np,nn,nc,ns,kp,kn,kc⟩,(N0:Int),oa,m⟩,os⟩ nd:=by
      have h1:=Yg.step PP;have h2:=h1.step ((Below.refl _ W7).drew);refine ⟨h2,by show W5.heap.size≤oa; omega,by rw [HQ.out]; exact Yf.out,?_,hhd,(hnl.step _ PP).step _ ((Below.refl _ W7).drew),Br.On.mono (fun b hb=>by omega) _ hno,?_⟩
      ·rw [List.take_length,← Sm.out]
      ·rw [HQ.out]; exact hgood
     have XZ:=ZW.put (by rw [HQ.out]; exact hlt) hq8;rw [HQ.out] at XZ;have hth:W7.drew.there gp (k * 10) 10:=fun j hj=>by
      have:=ZW.th (k * 10+j) (by omega)
      rwa [Nat.zero_add] at this
     obtain ⟨WX,mr⟩:∃ WX,WX=W7.drew.setCells gp (k * 10) [.string qn,.string qt,.int .i64 hk0,.int .i64 hm0,.int .i64 hf0,.int .i64 ht0,.slice np nn nc,.slice kp kn kc,.int .i64 (N0:Int),.slice (some ⟨oa,0,none⟩) m m]:=⟨_,rfl⟩
     have WR:LdS W5 gp n fs Good (qs++[⟨⟨(qn,qt),⟨hk0,hm0,hf0,ht0,np,nn,nc,ns,kp,kn,kc⟩,(N0:Int),oa,m⟩,os⟩]) (nds++[nd]) WX:=by rw [mr]; exact XZ
     have ZX:=Lib.hid WR;have hmo:m=os.length:=Yg.m;have Vf:=Lib.hid hmo;have Ve:m≤1000000:=by have:=vM fs (k+1); have:=pV fs k _ Yf.out; simp only at this; omega
     have ZY:Hid (N0+m≤sumT (fs.take (k+1))):=Lib.hid (by have:=pV fs k _ Yf.out; have h3:=HS.out; rw [← Sm.out] at h3; simp only at this; omega);have Ll:=Lib.hid hth;have yA:=Lib.hid mr;have WQ:=Lib.hid Sr;obtain ⟨i0,hi0,hy0⟩:∃ i0,Tryz.prog.info? 132=some i0∧i0.size=10:=by refine ⟨_,rfl,?_⟩; kernel_rfl
     have Bz:(Tryz.prog.info? 132).map (·.size)=some 10:=by rw [hi0]; simp [hy0]
     have WS:=Lib.hid Bz;have r1:(0:Int)≤(k:Int):=by omega
     have r2:(k:Int) < (n:Int):=by omega
     clear hgood ZT hhd hnl hno hqo Yg Vd Sr PP hb7 hnc hL7 ZW hq8 XZ hth mr WR hmo hi0 hy0 Bz qm
     go_upto_region 10 with (fail)
     rw [← WQ.out]
     go_upto_region 12 with (fail)
     go_still_tail 11,(by kernel_rfl)
     change wpList _ _ _ _ _ W7.drew
     refine wpList_store_mid rfl 132 (.tmp 57) (.tmp 56) rfl gp (k * 10) #[.string qn,.string qt,.int .i64 hk0,.int .i64 hm0,.int .i64 hf0,.int .i64 ht0,.slice np nn nc,.slice kp kn kc,.int .i64 (N0:Int),.slice (some ⟨oa,0,none⟩) m m] rfl rfl Ll.out WS.out (by simp [Value.oneCell']) ?_
     show wpList _ _ _ _ _ (W7.drew.setCells gp (k * 10) [.string qn,.string qt,.int .i64 hk0,.int .i64 hm0,.int .i64 hf0,.int .i64 ht0,.slice np nn nc,.slice kp kn kc,.int .i64 (N0:Int),.slice (some ⟨oa,0,none⟩) m m])
     rw [← yA.out]
     go_wp2_with fail
     go_roundw
     case rel =>
      refine ⟨k+1,_,_,by omega,by go_num,?_,Lib.hid ?_,Lib.hid ?_,ZX⟩
      ·rw [qX,List.length_append,← Sm.out,← Vf.out]; go_num
      ·rw [List.length_append,HQ.out]; rfl
      ·rw [qX,List.length_append,← Sm.out,← Vf.out]; exact ZY.out
     case measure=>simp [intOf]; omega
   ·have hkn:k=n:=by omega
    obtain ⟨e1,e2,e3,e4⟩:=uh hrr (.int .i64 0) (.int .i64 0) (.int .i64 0);have hg2:wr.grownBy (wr.setCells W.heap.size 0 [.int .i64 0,.int .i64 0,.int .i64 0]) (some W.heap.size):=gW W.heap.size _ 0 _;have pR:Hid (Below W.heap.size W (wr.setCells W.heap.size 0 [.int .i64 0,.int .i64 0,.int .i64 0])):=Lib.hid (hbw.grown hg2 hbw.size (fun j hj=>by have:=Option.some.inj hj; omega));have hwz:W.heap.size≤wr.heap.size:=hbw.size;have WT:Hid (kK W.heap.size fs Good pu gp qs nds (wr.setCells W.heap.size 0 [.int .i64 0,.int .i64 0,.int .i64 0])):=Lib.hid (by
     have hl:=HL.out;have Vd:qs.length=n:=by rw [HQ.out,hkn]
     have hgl:gp < wr.heap.size:=by omega
     have hpu:=HGP.out;have hc:∀ b j,b≠W.heap.size→b < wr.heap.size→(wr.setCells W.heap.size 0 [.int .i64 0,.int .i64 0,.int .i64 0]).cell? ⟨b,j,none⟩=wr.cell? ⟨b,j,none⟩:=fun b j hb hl=>World.cell?_of_block (a:=⟨b,j,none⟩) (hg2.block b hl (fun e=>hb (Option.some.inj e)))
     refine ⟨⟨?_,by have:=hg2.size; omega,by have:=hg2.size; omega,fun i p hi=>?_⟩,by rw [Vd]; exact HN.out,hl.len,by have:=HGP.out; omega,by omega,fun i q nd hi hj=>?_⟩
     ·rw [hc _ _ (by omega) (by omega),List.length_map,Vd]; exact hpp
     ·obtain ⟨q,hq,rfl⟩:∃ q,qs[i]?=some q∧q.pc=p:=by simpa using hi
      exact (hl.pc i q hq).ext fun j _=>hc _ _ (by omega) hgl
     ·have h1:=(hl.pt i q nd hi hj).grown hg2 (by omega)
      exact { h1 with oal:=by have:=h1.oal; omega,on:=Br.On.mono (fun b hb=>by omega) _ h1.on })
    have Ll:=Lib.hid e1;obtain ⟨WX,mr⟩:∃ WX,WX=wr.setCells W.heap.size 0 [.int .i64 0,.int .i64 0,.int .i64 0]:=⟨_,rfl⟩
    rw [← mr] at pR e2 e3 e4 WT;have yA:=Lib.hid mr;obtain ⟨i0,hi0,hy0⟩:∃ i0,Tryz.prog.info? 65=some i0∧i0.size=3:=by refine ⟨_,rfl,?_⟩; kernel_rfl
    have vU:(Tryz.prog.info? 65).map (·.size)=some 3:=by rw [hi0]; simp [hy0]
    have Bv:=Lib.hid vU;subst hkn;clear mr e1 vU hi0 hy0 hg2 hbw hgr hrr
    go_wp2_with (first
     | (refine wpList_store_mid rfl 65 (.tmp 3) (.tmp 64) rfl W.heap.size 0 #[.int .i64 0,.int .i64 0,.int .i64 0] rfl rfl Ll.out Bv.out (by simp [Value.oneCell']) ?_; show wpList _ _ _ _ _ (wr.setCells W.heap.size 0 [.int .i64 0,.int .i64 0,.int .i64 0]); rw [← yA.out])
     | go_in)
    refine bodyPost_ret (v:=.tuple #[.pointer (some ⟨pu,0,none⟩),.agg #[.int .i64 0,.int .i64 0,.int .i64 0]]) (by simp [results,Tryz.results39,go_sem,e2,e3,e4,Result.andThen]; try rfl) rfl ?_
    exact ⟨pR.out,.inr (.inr ⟨TW.out,pu,gp,qs,nds,WT.out,rfl⟩)⟩
 ·have hk1:(k != 0)=true:=by simpa using hk0
  have HK0:=Lib.hid hk0;obtain ⟨W3,hW3⟩:∃ W3,W3=w2.alloc (.cells #[.int .i64 k,.int .i64 f,.int .i64 0] 65):=⟨_,rfl⟩
  have hc:=Lib.cell_of_heap (heap_alloc_new w2 (.cells #[.int .i64 k,.int .i64 f,.int .i64 0] 65));rw [← hW3] at hc;have c0:W3.cell? ⟨w2.heap.size,0,none⟩=some (.int .i64 k):=hc 0;have c1:W3.cell? ⟨w2.heap.size,1,none⟩=some (.int .i64 f):=hc 1;have c2:W3.cell? ⟨w2.heap.size,2,none⟩=some (.int .i64 0):=hc 2;have hb3:Below W.heap.size W W3:=by rw [hW3]; exact HB2.out.alloc (by omega) _
  have Bq:W3.heap[W.heap.size]?=some (.cells #[.int .i64 0,.int .i64 0,.int .i64 0] 65):=by rw [hW3,heap_alloc_old _ _ (by omega)]; exact WI.out
  have HE:=Lib.hid (fun v0 v1 v2=>uh (W:=W3.drew) (b:=W.heap.size) Bq v0 v1 v2);have HB3:=Lib.hid hb3;have HW3:=Lib.hid hW3;obtain ⟨i0,hi0,hy0⟩:∃ i0,Tryz.prog.info? 65=some i0∧i0.size=3:=by refine ⟨_,rfl,?_⟩; kernel_rfl
  have vU:(Tryz.prog.info? 65).map (·.size)=some 3:=by rw [hi0]; simp [hy0]
  have Bv:=Lib.hid vU;clear hk0 hc hb3 Bq hW3 vU hi0 hy0
  go_upto_region 3 with (fail)
  rw [← HW3.out]
  go_still_tail 2,(by kernel_rfl)
  change wpList _ _ _ _ _ W3.drew
  obtain ⟨e1,e2,e3,e4⟩:=HE.out (.int .i64 k) (.int .i64 f) (.int .i64 0);have pR:Hid (Below W.heap.size W (W3.drew.setCells W.heap.size 0 [.int .i64 k,.int .i64 f,.int .i64 0])):=Lib.hid ((HB3.out.drew).grown (gW W.heap.size _ 0 _) (by have:=HB3.out.size; exact this) (fun j hj=>by have:=Option.some.inj hj; omega));obtain ⟨WX,mr⟩:∃ WX,WX=W3.drew.setCells W.heap.size 0 [.int .i64 k,.int .i64 f,.int .i64 0]:=⟨_,rfl⟩
  rw [← mr] at pR e2 e3 e4;have yA:=Lib.hid mr;refine wpList_store_mid rfl 65 (.tmp 3) (.tmp 18) rfl W.heap.size 0 #[.int .i64 k,.int .i64 f,.int .i64 0] rfl rfl e1 Bv.out (by simp [Value.oneCell']) ?_
  show wpList _ _ _ _ _ (W3.drew.setCells W.heap.size 0 [.int .i64 k,.int .i64 f,.int .i64 0])
  rw [← mr];clear mr e1 HE
  go_wp2_with fail
  refine bodyPost_ret (v:=.tuple #[.pointer none,.agg #[.int .i64 k,.int .i64 f,.int .i64 0]]) (by simp [results,Tryz.results39,go_sem,e2,e3,e4,Result.andThen]; try rfl) rfl ?_
  exact ⟨pR.out,.inl ⟨k,f,HK0.out,TW.out,rfl⟩⟩
theorem jh.inj {W:World} {b o:Nat} {u v:fK} (h:jh W b o u) (k:jh W b o v):u=v:=by
 obtain ⟨a0,a1,a2,a3,a4⟩:=h;obtain ⟨b0,b1,b2,b3,b4⟩:=k;rw [a0] at b0; rw [a1] at b1; rw [a2] at b2; rw [a3] at b3; rw [a4] at b4
 cases u; cases v
 simp only [Option.some.injEq,Value.int.injEq,true_and,Value.bool.injEq] at *
 simp [b0,b1,b2,b3,b4]
structure oK (s:ByteArray) (file first:Int) (q:PV) (nd:Br) (y0:Br) (n:Nat) (ts:List Int):Prop where
 ok:ru s y0.pb n
 pb:nd.pb=qw (aO s) first ts y0
 rise:mG ts
 len:ts.length=q.os.length
 mem:∀ x:Int,x ∈ ts ↔ x ∈ dQ y0.flatB
 occ:∀ (i:Nat) (t:Int),ts[i]?=some t→∃ z ∈ y0.flatB,∃ j:Nat,z.h.ns[j]?=some t∧q.os[i]?=some (qp (aO s) file z.h.k z.h.ns.length j t)
structure OsF (s:ByteArray) (file:Int) (os:List fK):Prop where
 file:∀ v ∈ os,v.file=file
 rng:∀ v ∈ os,0≤v.at_∧v.at_ < v.end_∧v.end_≤(s.size:Int)
 may:∀ v ∈ os,Gh v.sp (s.extract v.at_.toNat v.end_.toNat)=true
 rise:∀ (i:Nat) (u v:fK),os[i]?=some u→os[i+1]?=some v→u.end_≤v.at_
theorem OsF.ge {s:ByteArray} {file:Int} {os:List fK} (h:OsF s file os):∀ (i:Nat) (v:fK),os[i]?=some v→(i:Int)≤v.at_:=by
 intro i
 induction i with
 | zero=>intro v hv; exact (h.rng v (List.mem_of_getElem? hv)).1
 | succ i ih =>
  intro v hv;have hlt:=(List.getElem?_eq_some_iff.1 hv).1;obtain ⟨u,hu⟩:∃ u,os[i]?=some u:=⟨_,List.getElem?_eq_getElem (by omega)⟩
  have h1:=ih u hu;have h2:=h.rng u (List.mem_of_getElem? hu);have h3:=h.rise i u v hu hv
  omega
theorem OsF.len {s:ByteArray} {file:Int} {os:List fK} (h:OsF s file os):os.length≤s.size:=by
 rcases Nat.eq_zero_or_pos os.length with h0 | h0
 ·omega
 ·obtain ⟨v,hv⟩:∃ v,os[os.length - 1]?=some v:=⟨_,List.getElem?_eq_getElem (by omega)⟩
  have h1:=h.ge _ v hv;have h2:=h.rng v (List.mem_of_getElem? hv)
  omega
def lF (i:Nat) (f:bn) (first:Int) (q:PV) (nd:Br):Prop:=(∃ y0 n ts,oK f.2 i first q nd y0 n ts)∧OsF f.2 i q.os
theorem UH (i:Nat) (f:bn) (hs:f.2.size≤5000) (first:Int) (w:World) (h0:0≤first) (h1:first≤1000000) (hk:Kw w) :
  Calls Tryz.prog 17 #[.string f.2,.int .i64 i,.int .i64 first] w (SA jw lF i f first w):=by
 refine (Gl f.2 (by omega) i first (WalkArith.wf_i64 (by omega)) w hk).mono ?_
 rintro x W ⟨hb,⟨a,c,hc,he,rfl⟩ | ⟨y0,n,v,oa,m,ts,hfa,⟨nd,rfl,hl,hp,hon⟩,hoa,rfl⟩⟩
 ·exact ⟨hb,.inl ⟨a,c,hc,he,rfl⟩⟩
 ·obtain ⟨nd2,_,hof⟩:=QQ f.2 hs i first h0 h1 hfa
  obtain ⟨ov,hov,hri⟩:=hof.occ;have hget:∀ j,j < m→((List.range m).map ov)[j]?=some (ov j):=fun j hj=>by simp [hj]
  have PQ:OsF f.2 i ((List.range m).map ov):=by
   refine ⟨fun v hv=>?_,fun v hv=>?_,fun v hv=>?_,fun j u v hu hv=>?_⟩
   ·obtain ⟨j,hj,rfl⟩:=List.mem_map.1 hv
    exact (hov j (List.mem_range.1 hj)).2.1
   ·obtain ⟨j,hj,rfl⟩:=List.mem_map.1 hv
    obtain ⟨_,_,q1,q2,q3,_⟩:=hov j (List.mem_range.1 hj);exact ⟨q1,q2,q3⟩
   ·obtain ⟨j,hj,rfl⟩:=List.mem_map.1 hv
    exact (hov j (List.mem_range.1 hj)).2.2.2.2.2
   ·have hjl:=(List.getElem?_eq_some_iff.1 hv).1
    simp at hjl
    rw [hget j (by omega)] at hu;rw [hget (j+1) hjl] at hv;rw [← Option.some.inj hu,← Option.some.inj hv];exact hri j hjl
  have WU:oK f.2 i first ⟨⟨f,nd.h,first,oa,m⟩,(List.range m).map ov⟩ nd y0 n ts:=by
   refine ⟨hfa.ok,hp,hfa.rise,by simpa using hfa.len,hfa.mem,fun j t hj=>?_⟩
   obtain ⟨z,hz,k,hk2,ho⟩:=hfa.occ j t hj;have hjm:j < m:=by rw [← hfa.len]; exact (List.getElem?_eq_some_iff.1 hj).1
   refine ⟨z,hz,k,hk2,?_⟩
   show ((List.range m).map ov)[j]?=_
   rw [hget j hjm];exact congrArg some ((hov j hjm).1.inj ho)
  have hpv:sG W ⟨⟨f,nd.h,first,oa,m⟩,(List.range m).map ov⟩:=by
   refine ⟨by simp,hof.oal,fun j v hj=>?_⟩
   have hjm:=(List.getElem?_eq_some_iff.1 hj).1;simp at hjm
   have hj2:((List.range m).map ov)[j]?=some v:=hj;rw [hget j hjm] at hj2;rw [← Option.some.inj hj2];exact (hov j hjm).1
  exact ⟨hb,.inr ⟨⟨⟨f,nd.h,first,oa,m⟩,(List.range m).map ov⟩,nd,⟨⟨y0,n,ts,WU⟩,PQ⟩,rfl,rfl,rfl,hl,hon,hoa,hpv,PQ.len,rfl⟩⟩
theorem wC (fs:List bn) (t:Nat) (p:Option Addr) (n cap:Nat) (W:World) (hk:Kw W) (hf:FIn W p n cap fs) (hlim:n≤100000) (hsz:sumT fs≤1000000) (hs:∀ f ∈ fs,f.2.size≤5000) (hnm:∀ f ∈ fs,f.1.size≤9223372036854775807) (ht:jT (fs.map (·.1)) t) :
  Calls Tryz.prog 39 #[.slice p n cap] W (BX fs t jw lF W) :=
 Q5 jw lF fs t p n cap W hk (fun i f first w hi h0 h1 hkw=>UH i f (hs f (List.mem_of_getElem? hi)) first w h0 h1 hkw) hf hlim hsz hnm ht
structure Ahd (s t:ByteArray) (K:Nat):Prop where
 data:∃ M,II M∧M.length=K∧t.data.toList=M++s.data.toList
theorem Qy (L:List (Int × List Int)):(L.flatMap (·.2)).Nodup→∀ p q:Int × List Int,p ∈ L→q ∈ L→∀ (i j:Nat) (t:Int),p.2[i]?=some t→q.2[j]?=some t→p=q∧i=j:=by
 induction L with
 | nil=>intro _ p q h; cases h
 | cons x r ih =>
  intro hn p q hp hq i j t hi hj;simp only [List.flatMap_cons,List.nodup_append] at hn;obtain ⟨n1,n2,n3⟩:=hn;have mem:∀ (u:Int × List Int) (k:Nat),u ∈ r→u.2[k]?=some t→t ∈ r.flatMap (·.2):=fun u k hu hk=>List.mem_flatMap.2 ⟨u,hu,List.mem_of_getElem? hk⟩
  rcases List.mem_cons.1 hp with rfl | hp2 <;> rcases List.mem_cons.1 hq with rfl | hq2
  ·refine ⟨rfl,?_⟩
   have hl:=(List.getElem?_eq_some_iff.1 hi).1;exact (List.getElem?_inj hl n1).1 (hi.trans hj.symm)
  ·exact absurd rfl (n3 t (List.mem_of_getElem? hi) t (mem q j hq2 hj))
  ·exact absurd rfl (n3 t (List.mem_of_getElem? hj) t (mem p i hp2 hi))
  ·exact ih n2 p q hp2 hq2 i j t hi hj
def onO (K:Nat) (v:fK):fK:=⟨v.file,v.at_+K,v.end_+K,v.sp,v.decl⟩
end Go.Proofs.YtmpmfamiegpmgaaGreatDoor
