/-
  The document's Alike: of two nodes that are alike it tells true.; unit.refused: which files make no unit, whatever stands in them.; A unit as it lies, and its looks: all, partOf, Text.; Contracts of the library, laid.; show.Names: the bytes of occurrences.; unit's Occs and Names: all occurrences, and their bytes.; A unit that is being loaded: what stands while its parts are filled in.; unit.Load, out of what is said of one file.; What Load finds in each file, by ast.File.; A file with bytes ahead that say nothing: the same node, the same occurrences, each so many bytes on.
-/
import Derived.Test.YtmpmfamiegpmgaaGreatDoorFT
import Derived.Deep.RegionHeld3
import Derived.Test.YtmpmfamiegpmgaaGreatDoorFA
import Derived.OwnWalk
import Derived.Maps.Ext
import Derived.Maps.OwnSet
import Derived.Maps.OwnOps
import Derived.Deep.MidRow
import Derived.Test.YtmpmfamiegpmgaaGreatDoorFF
import Derived.Shelf.Strconv.Clone
import Derived.Ground.Names2Prog
import Derived.Test.YtmpmfamiegpmgaaGreatDoorProg
import Derived.Laws.MakeOwn
import Derived.Test.YtmpmfamiegpmgaaGreatDoorFV
import Derived.Deep.Cut
import Derived.StillTailTactics
import Derived.Test.YtmpmfamiegpmgaaGreatDoorFAA
import Derived.Test.YtmpmfamiegpmgaaGreatDoorFHC
import Derived.Test.YtmpmfamiegpmgaaGreatDoorFZ
namespace Go.Proofs.YtmpmfamiegpmgaaGreatDoor
open Tryz
open Go.Lib (hid)
open Go.RowKit
set_option maxRecDepth 20000
set_option linter.unusedVariables false
set_option linter.unusedSimpArgs false
def qB (a b:List Int):Bool:=a == b
theorem Iz {a b:List Int} (h:a.length≠b.length):qB a b=false:=by
 unfold qB; rw [beq_eq_false_iff_ne]; intro e; exact h (by rw [e])
theorem Oj {a b:List Int} {k:Nat} (h1:k < a.length) (h2:k < b.length) (h:a[k]≠b[k]):qB a b=false:=by
 unfold qB; rw [beq_eq_false_iff_ne]; intro e; subst e; exact h rfl
theorem zo {a b:List Int} (h:a.length=b.length) (hall:∀ i (h1:i < a.length) (h2:i < b.length),a[i]=b[i]):qB a b=true:=by
 unfold qB; rw [beq_iff_eq]; exact List.ext_getElem h hall
set_option maxHeartbeats 1000000 in
theorem Fq (p:Option Addr) (n c:Nat) (l:List Int) (p':Option Addr) (n' c':Nat) (l':List Int) (w:World) (h:InV mkI w p n c l) (h':InV mkI w p' n' c' l') (hn:n≤17592186044416) :
  Calls prog 56 #[.slice p n c,.slice p' n' c'] w fun e w'=>e=.returned (.bool (qB l l'))∧Below w.heap.size w w':=by
 by_cases hln:n=n'
 ·subst hln
  have hl:=h.1
  have hl':=h'.1
  have HA:=hid h
  have HA':=hid h'
  have HL:=hid hl
  have HL':=hid hl'
  clear h h' hl hl'
  have hnz:(0:Int)≤(n:Int):=by omega
  go_enter func56,ntmps56
  go_wp2_with fail
  go_loopw [5] (fun i wr=>∃ k:Nat,k≤n∧i=.int .i64 k∧Hid (∀ i (h1:i < l.length) (h2:i < l'.length),i < k→l[i]=l'[i])∧∃ m,wr=w.drewN m) (fun i _=>n - (intOf i).toNat)
  case atStart=>exact ⟨0,by omega,rfl,hid (fun i _ _ h=>by omega),0,rfl⟩
  case round =>
   obtain ⟨k,hk,rfl,HE,m,rfl⟩:=hrel
   by_cases hlt:k < n
   ·obtain ⟨b,off,rfl,hc1,hb,hat⟩:=HA.out.2.resolve_left (by omega)
    obtain ⟨b',off',rfl,hc1',hb',hat'⟩:=HA'.out.2.resolve_left (by omega)
    have hkl:k < l.length:=by rw [← HL.out]; exact hlt
    have hkl':k < l'.length:=by rw [← HL'.out]; exact hlt
    have c0:w.cell? ⟨b,off+k,none⟩=some (.int .i64 l[k]):=hat k hkl
    have c1:w.cell? ⟨b',off'+k,none⟩=some (.int .i64 l'[k]):=hat' k hkl'
    have hk1:(0:Int)≤(k:Int):=by omega
    have hk2:(k:Int) < (n:Int):=by omega
    by_cases heq:l[k]=l'[k]
    ·have HE2:Hid (∀ i (h1:i < l.length) (h2:i < l'.length),i < k+1→l[i]=l'[i]):=hid fun i h1 h2 hi=>by
      rcases Nat.lt_or_ge i k with h3 | h3
      ·exact HE.out i h1 h2 h3
      ·obtain rfl:i=k:=by omega
       exact heq
     rw [← heq] at c1
     clear heq hat hat'
     generalize l[k]=t at *
     go_wp2
     go_quiet (fail)
     go_wp2
     go_roundw
     case rel=>exact ⟨k+1,by omega,by go_num,HE2,_,rfl⟩
     case measure=>simp [intOf]; omega
    ·have HR:=hid (Oj hkl hkl' heq)
     clear hat hat'
     have hne:(l[k] == l'[k])=false:=by rw [beq_eq_false_iff_ne]; exact heq
     generalize l[k]=t at *
     generalize l'[k]=t' at *
     go_wp2
     go_quiet (fail)
     go_wp2
     go_ret
     exact ⟨aO HR.out.symm,below_drewN (below_drewN (Below.refl _ _) _) _⟩
   ·have HR:Hid (qB l l'=true):=hid (zo (by rw [← HL.out,← HL'.out]) fun i h1 h2=>HE.out i h1 h2 (by rw [← HL.out] at h1; omega))
    go_wp2
    go_ret
    exact ⟨aO HR.out.symm,below_drewN (Below.refl _ _) _⟩
 ·have HR:Hid (qB l l'=false):=hid (Iz (by rw [← h.1,← h'.1]; exact hln))
  have hne:((n:Int) == (n':Int))=false:=by rw [beq_eq_false_iff_ne]; omega
  clear h h'
  go_enter func56,ntmps56
  go_wp2
  go_ret
  exact ⟨aO HR.out.symm,Below.refl _ _⟩
mutual
def Br.Alk (pl:Bool):Br→Br→Prop
 | .mk h ks,b=>h.k=b.h.k∧h.m=b.h.m∧h.ns=b.h.ns∧(pl=true→h.f=b.h.f∧h.t=b.h.t)∧Oa pl ks b.ks
def Oa (pl:Bool):List Br→List Br→Prop
 | [],l=>l=[]
 | x :: r,l=>∃ y s,l=y :: s∧x.Alk pl y∧Oa pl r s
end
theorem BO (pl:Bool) (ks:List Br):∀ js:List Br,Oa pl ks js ↔ ks.length=js.length∧∀ i (h1:i < ks.length) (h2:i < js.length),ks[i].Alk pl js[i]:=by
 induction ks with
 | nil=>intro js; cases js <;> simp [Oa]
 | cons x r ih =>
  intro js
  simp only [Oa]
  constructor
  ·rintro ⟨y,s,rfl,h1,h2⟩
   obtain ⟨h3,h4⟩:=(ih s).1 h2
   refine ⟨by simp [h3],fun i a b=>?_⟩
   cases i with
   | zero=>exact h1
   | succ i=>exact h4 i (by simpa using a) (by simpa using b)
  ·rintro ⟨h1,h2⟩
   cases js with
   | nil=>simp at h1
   | cons y s =>
    refine ⟨y,s,rfl,h2 0 (by simp) (by simp),(ih s).2 ⟨by simpa using h1,fun i a b=>h2 (i+1) (by simpa using a) (by simpa using b)⟩⟩
set_option maxHeartbeats 4000000 in
theorem BV (pl:Bool) (a:Br):∀ (b:Br) (w:World),a.Lies w→b.Lies w→a.Few→a.Alk pl b →
  Calls prog 19 #[a.h.val,b.h.val,.bool pl] w fun e w'=>e=.returned (.bool true)∧Below w.heap.size w w':=by
 induction a using Br.ind with
 | hP h ks ih =>
  intro b w hl hl' hfit VL
  have b1:Below w.heap.size w (w.alloc (.cells #[.int .i64 h.k,.int .i64 h.m,.int .i64 h.f,.int .i64 h.t,.slice h.np h.nn h.nc,.slice h.kp h.kn h.kc] 26)):=(Below.refl _ _).alloc (Nat.le_refl _) _
  have c1:=Bh w h 26
  obtain ⟨w1,e1⟩:∃ w1,w1=w.alloc (.cells #[.int .i64 h.k,.int .i64 h.m,.int .i64 h.f,.int .i64 h.t,.slice h.np h.nn h.nc,.slice h.kp h.kn h.kc] 26):=⟨_,rfl⟩
  have s1:w1.heap.size=w.heap.size+1:=by rw [e1]; simp
  have c1:iK w1 w.heap.size 0 h:=by rw [e1]; exact c1
  rw [← e1] at b1
  have l1:=hl.step _ b1
  have hl2:=hl'.step _ b1
  obtain ⟨g,js⟩:=b
  have b2:Below w1.heap.size w1 (w1.alloc (.cells #[.int .i64 g.k,.int .i64 g.m,.int .i64 g.f,.int .i64 g.t,.slice g.np g.nn g.nc,.slice g.kp g.kn g.kc] 26)):=(Below.refl _ _).alloc (Nat.le_refl _) _
  have c2:=Bh w1 g 26
  obtain ⟨w2,e2⟩:∃ w2,w2=w1.alloc (.cells #[.int .i64 g.k,.int .i64 g.m,.int .i64 g.f,.int .i64 g.t,.slice g.np g.nn g.nc,.slice g.kp g.kn g.kc] 26):=⟨_,rfl⟩
  have s2:w2.heap.size=w1.heap.size+1:=by rw [e2]; simp
  have c2:iK w2 w1.heap.size 0 g:=by rw [e2]; exact c2
  rw [← e2] at b2
  have l2:=hl2.step _ b2
  have c1:=c1.step (by omega) b2
  have l1:=l1.step _ b2
  have b12:=b1.trans (b2.mono (by omega))
  obtain ⟨vG,hkids,hall⟩:=(dI _ _).1 l1
  obtain ⟨hnames',hkids',hall'⟩:=(dI _ _).1 l2
  simp only [Br.Few,qV] at hfit
  simp only [Br.Alk,Br.h,Br.ks] at VL
  simp only [Br.h,Br.ks] at vG hkids hall hnames' hkids' hall' c1 c2 e1 e2 ⊢
  obtain ⟨hk,hm,hf,ht,np,nn,nc,ns,kp,kn,kc⟩:=h
  obtain ⟨gk,gm,gf,gt,np',nn',nc',ns',kp',kn',kc'⟩:=g
  obtain ⟨Q8,hlen,Q9⟩:=hfit
  obtain ⟨q1,q2,q3,q4,q5⟩:=VL
  simp only at q1 q2 q3 q4
  subst q1 q2 q3
  rw [BO] at q5
  obtain ⟨hlj,hak⟩:=q5
  have hkn:kn=ks.length:=hkids.1
  have hkn':kn'=ks.length:=by rw [hlj]; exact hkids'.1
  subst hkn
  subst hkn'
  simp only at Q8 vG hnames' hkids hkids'
  have HI1:=hid (Fq np nn nc ns np' nn' nc' ns w2 vG hnames' (by have:=vG.1; omega))
  rw [show qB ns ns=true from zo rfl (fun _ _ _=>rfl)] at HI1
  have HK:=hid hkids
  have HK':=hid hkids'
  have HL:=hid hall
  have HL':=hid hall'
  have HI:=hid ih
  have HF2:=hid Q9
  have HB:=hid b12
  have SK:=hid c1
  have HC2:=hid c2
  have S1:=hid s1
  have S2:=hid s2
  have E2:=hid e2
  have WT:=hid hak
  have WU:=hid hlj
  subst e1
  clear vG hnames' hkids hkids' hall hall' ih Q9 b12 c1 c2 l1 l2 b1 b2 hl hl2 hl' Q8 s1 s2 e2 hak hlj
  cases pl
  ·clear q4
   go_enter func19,ntmps19
   go_wp2_with fail
   rw [← E2.out]
   refine HI1.out.mono ?_
   rintro e w3 ⟨rfl,hb3⟩
   have HB3:=hid hb3
   have hs2:=HB.out.size
   have hz3:=hb3.size
   have hz1:=S1.out
   have hz2:=S2.out
   obtain ⟨_,_,a2,a3,_,a5⟩:=(SK.out.step (by omega) hb3).box
   obtain ⟨_,_,d2,d3,_,d5⟩:=(HC2.out.step (by omega) hb3).box
   rw [hz1] at d5 d2 d3
   clear hb3
   go_wp2_with fail
   go_loopw [7] (fun iv wr=>∃ i:Nat,i≤ks.length∧iv=.int .i64 i∧Hid (Below w3.heap.size w3 wr)) (fun iv _=>ks.length - (intOf iv).toNat)
   case atStart=>exact ⟨0,by omega,rfl,hid (Below.refl _ _)⟩
   case round =>
    obtain ⟨i,hi,rfl,EK⟩:=hrel
    have hbe:=EK.out
    have t5:=(hbe.cell (p:=⟨w.heap.size,_,none⟩) (by show w.heap.size < w3.heap.size; omega)).trans a5
    have u5:=(hbe.cell (p:=⟨w.heap.size+1,_,none⟩) (by show w.heap.size+1 < w3.heap.size; omega)).trans d5
    have hz:=hbe.size
    clear a2 a3 d2 d3
    by_cases hlt:i < ks.length
    ·have hlt':i < js.length:=by rw [← WU.out]; exact hlt
     have vH:=HB3.out.trans (hbe.mono hz3)
     obtain ⟨bx,ox,rfl,_,hbx,Le⟩:=(HK.out.step vH).2.resolve_left (by omega)
     obtain ⟨bY,oY,rfl,_,Ib,Lh⟩:=(HK'.out.step vH).2.resolve_left (by omega)
     obtain ⟨x0,x1,x2,x3,x4,x5⟩:=Le i hlt
     obtain ⟨y0,y1,y2,y3,y4,y5⟩:=Lh i hlt'
     have hmem:=List.getElem_mem hlt
     have hmem':=List.getElem_mem hlt'
     have HX:=hid (HI.out ks[i] hmem js[i] wr.drew (((HL.out _ hmem).step _ vH).step _ (Below.refl _ _).drew) (((HL'.out _ hmem').step _ vH).step _ (Below.refl _ _).drew) (HF2.out _ hmem) (WT.out i hlt hlt'))
     have hr1:(0:Int)≤(i:Int):=by omega
     have hr2:(i:Int) < (ks.length:Int):=by omega
     have hwn:w.heap.size < wr.heap.size:=by omega
     have SL:w.heap.size+1 < wr.heap.size:=by omega
     clear Le Lh hmem hmem' hbe vH a5 d5 HK HK' HL HL' HI HF2 HI1 SK HC2 S1 S2 E2 WT WU
     generalize ks[i]=x at *
     generalize js[i]=y at *
     go_wp2_with fail
     go_region_held3 (fun w'=>w'.cell? ⟨w.heap.size,5,none⟩=some (.slice (some ⟨bx,ox,none⟩) ks.length kc)∧w'.cell? ⟨w.heap.size+1,5,none⟩=some (.slice (some ⟨bY,oY,none⟩) ks.length kc')∧w'.cell? ⟨bx,ox+i * 6,none⟩=some (.int .i64 x.h.k)∧w'.cell? ⟨bx,ox+i * 6+1,none⟩=some (.int .i64 x.h.m)∧w'.cell? ⟨bx,ox+i * 6+2,none⟩=some (.int .i64 x.h.f)∧w'.cell? ⟨bx,ox+i * 6+3,none⟩=some (.int .i64 x.h.t)∧w'.cell? ⟨bx,ox+i * 6+4,none⟩=some (.slice x.h.np x.h.nn x.h.nc)∧w'.cell? ⟨bx,ox+i * 6+5,none⟩=some (.slice x.h.kp x.h.kn x.h.kc)∧w'.cell? ⟨bY,oY+i * 6,none⟩=some (.int .i64 y.h.k)∧w'.cell? ⟨bY,oY+i * 6+1,none⟩=some (.int .i64 y.h.m)∧w'.cell? ⟨bY,oY+i * 6+2,none⟩=some (.int .i64 y.h.f)∧w'.cell? ⟨bY,oY+i * 6+3,none⟩=some (.int .i64 y.h.t)∧w'.cell? ⟨bY,oY+i * 6+4,none⟩=some (.slice y.h.np y.h.nn y.h.nc)∧w'.cell? ⟨bY,oY+i * 6+5,none⟩=some (.slice y.h.kp y.h.kn y.h.kc)) (go_keep) ((first | (go_at_call 19; refine HX.out.mono ?_; rintro e w4 ⟨rfl,hb4⟩; have z0:=(hb4.cell (p:=⟨w.heap.size,_,none⟩) hwn).trans t5; have z1:=(hb4.cell (p:=⟨w.heap.size+1,_,none⟩) SL).trans u5; have z2:=(hb4.cell (p:=⟨bx,_,none⟩) hbx).trans x0; have z3:=(hb4.cell (p:=⟨bx,_,none⟩) hbx).trans x1; have z4:=(hb4.cell (p:=⟨bx,_,none⟩) hbx).trans x2; have z5:=(hb4.cell (p:=⟨bx,_,none⟩) hbx).trans x3; have z6:=(hb4.cell (p:=⟨bx,_,none⟩) hbx).trans x4; have z7:=(hb4.cell (p:=⟨bx,_,none⟩) hbx).trans x5; have z8:=(hb4.cell (p:=⟨bY,_,none⟩) Ib).trans y0; have z9:=(hb4.cell (p:=⟨bY,_,none⟩) Ib).trans y1; have z10:=(hb4.cell (p:=⟨bY,_,none⟩) Ib).trans y2; have z11:=(hb4.cell (p:=⟨bY,_,none⟩) Ib).trans y3; have z12:=(hb4.cell (p:=⟨bY,_,none⟩) Ib).trans y4; have z13:=(hb4.cell (p:=⟨bY,_,none⟩) Ib).trans y5)))
     have hb4':Below wr.heap.size wr w4:=((Below.refl _ _).drew).trans hb4
     have HB4:=hid (EK.out.trans (hb4'.mono hz))
     clear hb4 hb4'
     go_wp2_with fail
     go_roundw
     case rel=>exact ⟨i+1,by omega,by go_num,HB4⟩
     case measure=>simp [intOf]; omega
    ·have uZ:=hid (HB.out.trans ((HB3.out.trans (hbe.mono hz3)).mono HB.out.size))
     clear hbe
     go_wp2_with fail
     go_ret
     exact ⟨by first | trivial | rfl,uZ.out⟩
  ·obtain ⟨q6,q7⟩:=q4 rfl
   subst q6 q7
   clear q4
   go_enter func19,ntmps19
   go_wp2_with fail
   rw [← E2.out]
   refine HI1.out.mono ?_
   rintro e w3 ⟨rfl,hb3⟩
   have HB3:=hid hb3
   have hs2:=HB.out.size
   have hz3:=hb3.size
   have hz1:=S1.out
   have hz2:=S2.out
   obtain ⟨_,_,a2,a3,_,a5⟩:=(SK.out.step (by omega) hb3).box
   obtain ⟨_,_,d2,d3,_,d5⟩:=(HC2.out.step (by omega) hb3).box
   rw [hz1] at d5 d2 d3
   clear hb3
   go_wp2_with fail
   go_loopw [7] (fun iv wr=>∃ i:Nat,i≤ks.length∧iv=.int .i64 i∧Hid (Below w3.heap.size w3 wr)) (fun iv _=>ks.length - (intOf iv).toNat)
   case atStart=>exact ⟨0,by omega,rfl,hid (Below.refl _ _)⟩
   case round =>
    obtain ⟨i,hi,rfl,EK⟩:=hrel
    have hbe:=EK.out
    have t5:=(hbe.cell (p:=⟨w.heap.size,_,none⟩) (by show w.heap.size < w3.heap.size; omega)).trans a5
    have u5:=(hbe.cell (p:=⟨w.heap.size+1,_,none⟩) (by show w.heap.size+1 < w3.heap.size; omega)).trans d5
    have hz:=hbe.size
    clear a2 a3 d2 d3
    by_cases hlt:i < ks.length
    ·have hlt':i < js.length:=by rw [← WU.out]; exact hlt
     have vH:=HB3.out.trans (hbe.mono hz3)
     obtain ⟨bx,ox,rfl,_,hbx,Le⟩:=(HK.out.step vH).2.resolve_left (by omega)
     obtain ⟨bY,oY,rfl,_,Ib,Lh⟩:=(HK'.out.step vH).2.resolve_left (by omega)
     obtain ⟨x0,x1,x2,x3,x4,x5⟩:=Le i hlt
     obtain ⟨y0,y1,y2,y3,y4,y5⟩:=Lh i hlt'
     have hmem:=List.getElem_mem hlt
     have hmem':=List.getElem_mem hlt'
     have HX:=hid (HI.out ks[i] hmem js[i] wr.drew (((HL.out _ hmem).step _ vH).step _ (Below.refl _ _).drew) (((HL'.out _ hmem').step _ vH).step _ (Below.refl _ _).drew) (HF2.out _ hmem) (WT.out i hlt hlt'))
     have hr1:(0:Int)≤(i:Int):=by omega
     have hr2:(i:Int) < (ks.length:Int):=by omega
     have hwn:w.heap.size < wr.heap.size:=by omega
     have SL:w.heap.size+1 < wr.heap.size:=by omega
     clear Le Lh hmem hmem' hbe vH a5 d5 HK HK' HL HL' HI HF2 HI1 SK HC2 S1 S2 E2 WT WU
     generalize ks[i]=x at *
     generalize js[i]=y at *
     go_wp2_with fail
     go_region_held3 (fun w'=>w'.cell? ⟨w.heap.size,5,none⟩=some (.slice (some ⟨bx,ox,none⟩) ks.length kc)∧w'.cell? ⟨w.heap.size+1,5,none⟩=some (.slice (some ⟨bY,oY,none⟩) ks.length kc')∧w'.cell? ⟨bx,ox+i * 6,none⟩=some (.int .i64 x.h.k)∧w'.cell? ⟨bx,ox+i * 6+1,none⟩=some (.int .i64 x.h.m)∧w'.cell? ⟨bx,ox+i * 6+2,none⟩=some (.int .i64 x.h.f)∧w'.cell? ⟨bx,ox+i * 6+3,none⟩=some (.int .i64 x.h.t)∧w'.cell? ⟨bx,ox+i * 6+4,none⟩=some (.slice x.h.np x.h.nn x.h.nc)∧w'.cell? ⟨bx,ox+i * 6+5,none⟩=some (.slice x.h.kp x.h.kn x.h.kc)∧w'.cell? ⟨bY,oY+i * 6,none⟩=some (.int .i64 y.h.k)∧w'.cell? ⟨bY,oY+i * 6+1,none⟩=some (.int .i64 y.h.m)∧w'.cell? ⟨bY,oY+i * 6+2,none⟩=some (.int .i64 y.h.f)∧w'.cell? ⟨bY,oY+i * 6+3,none⟩=some (.int .i64 y.h.t)∧w'.cell? ⟨bY,oY+i * 6+4,none⟩=some (.slice y.h.np y.h.nn y.h.nc)∧w'.cell? ⟨bY,oY+i * 6+5,none⟩=some (.slice y.h.kp y.h.kn y.h.kc)) (go_keep) ((first | (go_at_call 19; refine HX.out.mono ?_; rintro e w4 ⟨rfl,hb4⟩; have z0:=(hb4.cell (p:=⟨w.heap.size,_,none⟩) hwn).trans t5; have z1:=(hb4.cell (p:=⟨w.heap.size+1,_,none⟩) SL).trans u5; have z2:=(hb4.cell (p:=⟨bx,_,none⟩) hbx).trans x0; have z3:=(hb4.cell (p:=⟨bx,_,none⟩) hbx).trans x1; have z4:=(hb4.cell (p:=⟨bx,_,none⟩) hbx).trans x2; have z5:=(hb4.cell (p:=⟨bx,_,none⟩) hbx).trans x3; have z6:=(hb4.cell (p:=⟨bx,_,none⟩) hbx).trans x4; have z7:=(hb4.cell (p:=⟨bx,_,none⟩) hbx).trans x5; have z8:=(hb4.cell (p:=⟨bY,_,none⟩) Ib).trans y0; have z9:=(hb4.cell (p:=⟨bY,_,none⟩) Ib).trans y1; have z10:=(hb4.cell (p:=⟨bY,_,none⟩) Ib).trans y2; have z11:=(hb4.cell (p:=⟨bY,_,none⟩) Ib).trans y3; have z12:=(hb4.cell (p:=⟨bY,_,none⟩) Ib).trans y4; have z13:=(hb4.cell (p:=⟨bY,_,none⟩) Ib).trans y5)))
     have hb4':Below wr.heap.size wr w4:=((Below.refl _ _).drew).trans hb4
     have HB4:=hid (EK.out.trans (hb4'.mono hz))
     clear hb4 hb4'
     go_wp2_with fail
     go_roundw
     case rel=>exact ⟨i+1,by omega,by go_num,HB4⟩
     case measure=>simp [intOf]; omega
    ·have uZ:=hid (HB.out.trans ((HB3.out.trans (hbe.mono hz3)).mono HB.out.size))
     clear hbe
     go_wp2_with fail
     go_ret
     exact ⟨by first | trivial | rfl,uZ.out⟩
open Go.RowKit Go.Maps
abbrev ji:=ByteArray × ByteArray
def FAt (w:World) (b o:Nat) (f:ji):Prop:=w.cell? ⟨b,o,none⟩=some (.string f.1)∧w.cell? ⟨b,o+1,none⟩=some (.string f.2)
def sumT (l:List ji):Nat:=(l.map fun f=>f.2.size).sum
def Zh (s:ByteArray):Lit:=.string s.data.toList
structure Bears (w:World) (mb:Nat) (l:List ByteArray):Prop where
 ex:∃ (D:DataW Unit) (n:Nat),w.ownsMap prog 9 (plainElem prog 3) mb n D∧n≤l.length∧∀ x:ByteArray,Maps.has D (Zh x)=true ↔ x ∈ l
def O5 (fs:List ji) (t:Nat) (k f:Int):Prop :=
 (1000 < fs.length∧k=5∧f=1000)∨(fs.length≤1000∧t < fs.length∧k=11∧f=t)∨(fs.length≤1000∧t=fs.length∧k=0∧f=0)
structure WY (l:List ByteArray) (t:Nat):Prop where
 le:t≤l.length
 nd:(l.take t).Nodup
 tw:t < l.length→∃ x,l[t]?=some x∧x ∈ l.take t
def WW (w:World) (fs:List ji) (t:Nat) (e:Ending) (w':World):Prop:=∃ k f,O5 fs t k f∧e=.returned (.agg #[.int .i64 k,.int .i64 f,.int .i64 0])∧Below w.heap.size w w'
def FIn (w:World) (p:Option Addr) (n cap:Nat) (fs:List ji):Prop:=n=fs.length∧(n=0∨∃ b o,p=some ⟨b,o,none⟩∧n≤cap∧b < w.heap.size∧∀ i f,fs[i]?=some f→FAt w b (o+i * 2) f)
structure PC where
 f:ji
 h:Hd
 first:Int
 oa:Nat
 m:Nat
def PC.cells (p:PC):List Value:=[.string p.f.1,.string p.f.2,.int .i64 p.h.k,.int .i64 p.h.m,.int .i64 p.h.f,.int .i64 p.h.t,.slice p.h.np p.h.nn p.h.nc,.slice p.h.kp p.h.kn p.h.kc,.int .i64 p.first,.slice (some ⟨p.oa,0,none⟩) p.m p.m]
structure Jt (W:World) (b o:Nat) (p:PC):Prop where
 c0:W.cell? ⟨b,o,none⟩=some (.string p.f.1)
 c1:W.cell? ⟨b,o+1,none⟩=some (.string p.f.2)
 c2:W.cell? ⟨b,o+2,none⟩=some (.int .i64 p.h.k)
 c3:W.cell? ⟨b,o+3,none⟩=some (.int .i64 p.h.m)
 c4:W.cell? ⟨b,o+4,none⟩=some (.int .i64 p.h.f)
 c5:W.cell? ⟨b,o+5,none⟩=some (.int .i64 p.h.t)
 c6:W.cell? ⟨b,o+6,none⟩=some (.slice p.h.np p.h.nn p.h.nc)
 c7:W.cell? ⟨b,o+7,none⟩=some (.slice p.h.kp p.h.kn p.h.kc)
 c8:W.cell? ⟨b,o+8,none⟩=some (.int .i64 p.first)
 c9:W.cell? ⟨b,o+9,none⟩=some (.slice (some ⟨p.oa,0,none⟩) p.m p.m)
theorem Jt.ext {W W':World} {b o:Nat} {p:PC} (h:Jt W b o p) (he:∀ j,j < 10→W'.cell? ⟨b,o+j,none⟩=W.cell? ⟨b,o+j,none⟩):Jt W' b o p :=
 ⟨(he 0 (by omega)).trans h.c0,(he 1 (by omega)).trans h.c1,(he 2 (by omega)).trans h.c2,(he 3 (by omega)).trans h.c3,(he 4 (by omega)).trans h.c4,(he 5 (by omega)).trans h.c5,(he 6 (by omega)).trans h.c6,(he 7 (by omega)).trans h.c7,(he 8 (by omega)).trans h.c8,(he 9 (by omega)).trans h.c9⟩
abbrev PC.val (p:PC):Value:=.agg #[.string p.f.1,.string p.f.2,.int .i64 p.h.k,.int .i64 p.h.m,.int .i64 p.h.f,.int .i64 p.h.t,.slice p.h.np p.h.nn p.h.nc,.slice p.h.kp p.h.kn p.h.kc,.int .i64 p.first,.slice (some ⟨p.oa,0,none⟩) p.m p.m]
structure UAt (W:World) (pu gp:Nat) (ps:List PC):Prop where
 u:W.cell? ⟨pu,0,none⟩=some (.slice (some ⟨gp,0,none⟩) ps.length ps.length)
 pl:pu < W.heap.size
 gl:gp < W.heap.size
 part:∀ i p,ps[i]?=some p→Jt W gp (i * 10) p
theorem UAt.step {W W':World} {pu gp:Nat} {ps:List PC} (h:UAt W pu gp ps) (hb:Below W.heap.size W W'):UAt W' pu gp ps :=
 ⟨(hb.cell (p:=⟨pu,0,none⟩) h.pl).trans h.u,Nat.lt_of_lt_of_le h.pl hb.size,Nat.lt_of_lt_of_le h.gl hb.size,fun i p hp=>(h.part i p hp).ext fun j _=>hb.cell (p:=⟨gp,_,none⟩) h.gl⟩
abbrev aai:Value:=.agg #[.string ⟨#[]⟩,.string ⟨#[]⟩,.int .i64 0,.int .i64 0,.int .i64 0,.int .i64 0,.slice none 0 0,.slice none 0 0,.int .i64 0,.slice none 0 0]
end Go.Proofs.YtmpmfamiegpmgaaGreatDoor
namespace Go.Proofs
open Go.Shelf
def Tryz.laysM316_ren:Go.Shelf.Ren:=⟨fun | 316=>116 | n=>n,fun | 9=>9 | 3=>3 | 4=>4 | 37=>139 | 0=>0 | 127=>231 | 5=>5 | n=>n,fun | n=>n⟩
end Go.Proofs
namespace Go.Proofs.YtmpmfamiegpmgaaGreatDoor
open Tryz
open Go.Lib (hid)
open Go.RowKit
set_option maxRecDepth 20000
set_option linter.unusedVariables false
set_option linter.unusedSimpArgs false
structure yG (W:World) (g m:Nat) (t:Nat→ByteArray):Prop where
 lt:g < W.heap.size
 at_:∀ i,i < m→W.cell? ⟨g,i,none⟩=some (.string (t i))∧W.frozen? ⟨g,i,none⟩=false
theorem yG.step {W W':World} {g m:Nat} {t:Nat→ByteArray} (h:yG W g m t) (hb:Below W.heap.size W W'):yG W' g m t :=
 ⟨Nat.lt_of_lt_of_le h.lt hb.size,fun i hi=>⟨(hb.cell (p:=⟨g,i,none⟩) h.lt).trans (h.at_ i hi).1,(hb.frozen (p:=⟨g,i,none⟩) h.lt).trans (h.at_ i hi).2⟩⟩
theorem yG.set {W:World} {g m:Nat} {t:Nat→ByteArray} (h:yG W g m t) {j:Nat} (hj:j < m) (x:ByteArray):yG (W.setCell ⟨g,j,none⟩ (.string x)) g m (fun i=>bif i == j then x else t i):=by
 refine ⟨by simpa using h.lt,fun i hi=>⟨?_,?_⟩⟩
 ·by_cases e:i=j
  ·subst e
   rw [World.cell?_setCell_same _ _ _ (h.at_ i hi).1]; simp
  ·rw [World.cell?_setCell_other _ _ _ _ (fun q=>e (Addr.mk.inj q).2.1.symm),(h.at_ i hi).1]
   have:(i == j)=false:=by simpa using e
   rw [this]; rfl
 ·rw [World.frozen?_setCell]; exact (h.at_ i hi).2
def aah (s:ByteArray) (a e:Int):ByteArray:=bif decide (0≤a) && decide (a≤e) && decide (e≤(s.size:Int)) then s.extract a.toNat e.toNat else ⟨#[]⟩
def YU (l:List jr):List Value:=l.flatMap jr.cells
structure PV where
 pc:PC
 os:List jr
structure zK (W:World) (q:PV):Prop where
 m:q.pc.m=q.os.length
 lt:q.pc.oa < W.heap.size
 at_:∀ j v,q.os[j]?=some v→gz W q.pc.oa (j * 5) v
theorem zK.step {W W':World} {q:PV} (h:zK W q) (hb:Below W.heap.size W W'):zK W' q :=
 ⟨h.m,Nat.lt_of_lt_of_le h.lt hb.size,fun j v hj=>(h.at_ j v hj).ext fun r _=>hb.cell (p:=⟨q.pc.oa,_,none⟩) h.lt⟩
def Rk (qs:List PV):List jr:=qs.flatMap (·.os)
structure PtW (K:Nat) (fs:List ji) (Good:Nat→ji→Int→PV→Br→Prop) (qs:List PV) (W:World) (i:Nat) (q:PV) (nd:Br):Prop where
 pv:zK W q
 oal:K≤q.pc.oa
 file:fs[i]?=some q.pc.f
 first:q.pc.first=(Rk (qs.take i)).length
 hd:q.pc.h=nd.h
 lies:nd.Lies W
 on:nd.On fun b=>K≤b
 good:Good i q.pc.f q.pc.first q nd
structure LdS (B:World) (gp n:Nat) (fs:List ji) (Good:Nat→ji→Int→PV→Br→Prop) (qs:List PV) (nds:List Br) (W:World):Prop where
 gr:B.grownBy W (some gp)
 gl:gp < B.heap.size
 th:W.there gp 0 (n * 10)
 len:nds.length=qs.length
 le:qs.length≤n
 pc:∀ i q,qs[i]?=some q→Jt W gp (i * 10) q.pc
 pt:∀ i q nd,qs[i]?=some q→nds[i]?=some nd→PtW B.heap.size fs Good qs W i q nd
theorem FQ {W W':World} {b o n:Nat} (h:W.there b o n) (he:W'.heap[b]?=W.heap[b]?):W'.there b o n:=fun j hj=>by
 have:=h j hj
 simp only [World.cell?,World.frozen?] at this ⊢
 rw [he]; exact this
theorem zK.grown {W W':World} {q:PV} {gp:Nat} (h:zK W q) (hg:W.grownBy W' (some gp)) (hne:q.pc.oa≠gp):zK W' q :=
 ⟨h.m,Nat.lt_of_lt_of_le h.lt hg.size,fun j v hj=>(h.at_ j v hj).ext fun r _=>World.cell?_of_block (a:=⟨q.pc.oa,_,none⟩) (hg.block _ h.lt (fun e=>hne (Option.some.inj e)))⟩
section
variable {B W W':World} {gp n:Nat} {fs:List ji} {Good:Nat→ji→Int→PV→Br→Prop} {qs:List PV} {nds:List Br}
theorem PtW.grown {K i:Nat} {q:PV} {nd:Br} (h:PtW K fs Good qs W i q nd) (hg:W.grownBy W' (some gp)) (hK:gp < K):PtW K fs Good qs W' i q nd:=by
 have:=h.oal
 exact ⟨h.pv.grown hg (by omega),h.oal,h.file,h.first,h.hd,Br.Lies.kept _ hg.size (fun b hb hlt=>hg.block b hlt (fun e=>by have:=Option.some.inj e; omega)) h.on h.lies,h.on,h.good⟩
theorem LdS.below (h:LdS B gp n fs Good qs nds W) (hb:Below W.heap.size W W'):LdS B gp n fs Good qs nds W':=by
 have hgl:=Nat.lt_of_lt_of_le h.gl h.gr.size
 exact ⟨ae h.gr (grown_below hb _),h.gl,FQ h.th (hb.block gp hgl),h.len,h.le,fun i q hi=>(h.pc i q hi).ext fun j _=>hb.cell (p:=⟨gp,_,none⟩) hgl,fun i q nd hi hj=>(h.pt i q nd hi hj).grown (grown_below hb _) h.gl⟩
theorem LdS.put (h:LdS B gp n fs Good qs nds W) {q:PV} {nd:Br} (hlt:qs.length < n) (hq:PtW B.heap.size fs Good qs W qs.length q nd):LdS B gp n fs Good (qs++[q]) (nds++[nd]) (W.setCells gp (qs.length * 10) q.pc.cells):=by
 have hg:W.grownBy (W.setCells gp (qs.length * 10) q.pc.cells) (some gp):=jO gp _ _ _
 have hth:∀ j,j < 10→(W.cell? ⟨gp,qs.length * 10+j,none⟩).isSome=true:=fun j hj=>by
  have:=(h.th (qs.length * 10+j) (by omega)).1
  rwa [Nat.zero_add] at this
 have hin:=World.cell?_setCells_in gp q.pc.cells (qs.length * 10) W (fun j hj=>hth j hj)
 have hpc:Jt (W.setCells gp (qs.length * 10) q.pc.cells) gp (qs.length * 10) q.pc :=
  ⟨hin 0 (by show 0 < 10; omega),hin 1 (by show 1 < 10; omega),hin 2 (by show 2 < 10; omega),hin 3 (by show 3 < 10; omega),hin 4 (by show 4 < 10; omega),hin 5 (by show 5 < 10; omega),hin 6 (by show 6 < 10; omega),hin 7 (by show 7 < 10; omega),hin 8 (by show 8 < 10; omega),hin 9 (by show 9 < 10; omega)⟩
 have htk:∀ i,i≤qs.length→(qs++[q]).take i=qs.take i:=fun i hi=>List.take_append_of_le_length hi
 refine ⟨ae h.gr hg,h.gl,?_,by simp [h.len],by simp; omega,fun i p hi=>?_,fun i p nd' hi hj=>?_⟩
 ·intro j hj
  have h0:=h.th j hj
  refine ⟨?_,by rw [World.frozen?_setCells]; exact h0.2⟩
  by_cases hr:qs.length * 10≤0+j∧0+j < qs.length * 10+10
  ·have:=hin (0+j - qs.length * 10) (by show _ < 10; omega)
   rw [show qs.length * 10+(0+j - qs.length * 10)=0+j by omega] at this
   rw [this]; rfl
  ·rw [World.cell?_setCells_out _ _ _ _ _ (fun _ _=>by simp only [PC.cells,List.length_cons,List.length_nil]; omega)]; exact h0.1
 ·by_cases hi2:i < qs.length
  ·rw [List.getElem?_append_left hi2] at hi
   exact (h.pc i p hi).ext fun j _=>World.cell?_setCells_out _ _ _ _ _ (fun _ _=>by simp only [PC.cells,List.length_cons,List.length_nil]; omega)
  ·have hi3:=(List.getElem?_eq_some_iff.1 hi).1
   simp at hi3
   obtain rfl:i=qs.length:=by omega
   simp at hi
   subst hi
   exact hpc
 ·by_cases hi2:i < qs.length
  ·rw [List.getElem?_append_left hi2] at hi
   rw [List.getElem?_append_left (by rw [h.len]; exact hi2)] at hj
   have h1:=(h.pt i p nd' hi hj).grown hg h.gl
   exact { h1 with first:=by rw [htk i (by omega)]; exact h1.first }
  ·have hi3:=(List.getElem?_eq_some_iff.1 hi).1
   simp at hi3
   obtain rfl:i=qs.length:=by omega
   simp at hi
   subst hi
   rw [← h.len] at hj
   simp at hj
   subst hj
   have h1:=hq.grown hg h.gl
   exact { h1 with first:=by rw [htk _ (Nat.le_refl _)]; exact h1.first }
end
structure TJ (K:Nat) (fs:List ji) (Good:Nat→ji→Int→PV→Br→Prop) (pu gp:Nat) (qs:List PV) (nds:List Br) (W:World):Prop where
 u:UAt W pu gp (qs.map PV.pc)
 len:qs.length=fs.length
 lenn:nds.length=qs.length
 pl:K≤pu
 gl:K≤gp
 pt:∀ i q nd,qs[i]?=some q→nds[i]?=some nd→PtW K fs Good qs W i q nd
def Rf (Err:ByteArray→Int→Int→Prop) (Good:Nat→ji→Int→PV→Br→Prop) (i:Nat) (f:ji) (first:Int) (W:World) (x:Ending) (W':World):Prop :=
 Below W.heap.size W W'∧((∃ a c,c≠0∧Err f.2 a c∧x=.returned (.tuple #[.agg #[.int .i64 0,.int .i64 0,.int .i64 0,.int .i64 0,.slice none 0 0,.slice none 0 0],.slice none 0 0,.int .i64 a,.int .i64 c])) ∨
  ∃ (q:PV) (nd:Br),Good i f first q nd∧q.pc.f=f∧q.pc.first=first∧q.pc.h=nd.h∧nd.Lies W'∧(nd.On fun b=>W.heap.size≤b)∧W.heap.size≤q.pc.oa∧zK W' q∧q.os.length≤f.2.size∧x=.returned (.tuple #[nd.h.val,.slice (some ⟨q.pc.oa,0,none⟩) q.pc.m q.pc.m,.int .i64 0,.int .i64 0]))
def aag (fs:List ji) (t:Nat) (Err:ByteArray→Int→Int→Prop) (Good:Nat→ji→Int→PV→Br→Prop) (W:World) (x:Ending) (W':World):Prop :=
 Below W.heap.size W W'∧((∃ k f,k≠0∧O5 fs t k f∧x=.returned (.tuple #[.pointer none,.agg #[.int .i64 k,.int .i64 f,.int .i64 0]])) ∨
  (O5 fs t 0 0∧∃ (i:Nat) (f:ji) (a c:Int),fs[i]?=some f∧c≠0∧Err f.2 a c∧(∃ (qs:List PV) (nds:List Br),qs.length=i∧nds.length=i∧∀ j q nd,qs[j]?=some q→nds[j]?=some nd→∃ g,fs[j]?=some g∧Good j g (Rk (qs.take j)).length q nd)∧x=.returned (.tuple #[.pointer none,.agg #[.int .i64 c,.int .i64 i,.int .i64 a]])) ∨
  (O5 fs t 0 0∧∃ pu gp qs nds,TJ W.heap.size fs Good pu gp qs nds W'∧x=.returned (.tuple #[.pointer (some ⟨pu,0,none⟩),.agg #[.int .i64 0,.int .i64 0,.int .i64 0]])))
theorem gz.inj {W:World} {b o:Nat} {u v:jr} (h:gz W b o u) (k:gz W b o v):u=v:=by
 obtain ⟨a0,a1,a2,a3,a4⟩:=h
 obtain ⟨b0,b1,b2,b3,b4⟩:=k
 rw [a0] at b0; rw [a1] at b1; rw [a2] at b2; rw [a3] at b3; rw [a4] at b4
 cases u; cases v
 simp only [Option.some.injEq,Value.int.injEq,true_and,Value.bool.injEq] at *
 simp [b0,b1,b2,b3,b4]
structure Ha (s:ByteArray) (file first:Int) (q:PV) (nd:Br) (y0:Br) (n:Nat) (ts:List Int):Prop where
 ok:pz s y0.pb n
 pb:nd.pb=qm (aN s) first ts y0
 rise:oz ts
 len:ts.length=q.os.length
 mem:∀ x:Int,x ∈ ts ↔ x ∈ cO y0.flatB
 occ:∀ (i:Nat) (t:Int),ts[i]?=some t→∃ z ∈ y0.flatB,∃ j:Nat,z.h.ns[j]?=some t∧q.os[i]?=some (oH (aN s) file z.h.k z.h.ns.length j t)
structure OsF (s:ByteArray) (file:Int) (os:List jr):Prop where
 file:∀ v ∈ os,v.file=file
 rng:∀ v ∈ os,0≤v.at_∧v.at_ < v.end_∧v.end_≤(s.size:Int)
 may:∀ v ∈ os,Gp v.sp (s.extract v.at_.toNat v.end_.toNat)=true
 rise:∀ (i:Nat) (u v:jr),os[i]?=some u→os[i+1]?=some v→u.end_≤v.at_
theorem OsF.ge {s:ByteArray} {file:Int} {os:List jr} (h:OsF s file os):∀ (i:Nat) (v:jr),os[i]?=some v→(i:Int)≤v.at_:=by
 intro i
 induction i with
 | zero=>intro v hv; exact (h.rng v (List.mem_of_getElem? hv)).1
 | succ i ih =>
  intro v hv
  have hlt:=(List.getElem?_eq_some_iff.1 hv).1
  obtain ⟨u,hu⟩:∃ u,os[i]?=some u:=⟨_,List.getElem?_eq_getElem (by omega)⟩
  have h1:=ih u hu
  have h2:=h.rng u (List.mem_of_getElem? hu)
  have h3:=h.rise i u v hu hv
  omega
theorem OsF.len {s:ByteArray} {file:Int} {os:List jr} (h:OsF s file os):os.length≤s.size:=by
 rcases Nat.eq_zero_or_pos os.length with h0 | h0
 ·omega
 ·obtain ⟨v,hv⟩:∃ v,os[os.length - 1]?=some v:=⟨_,List.getElem?_eq_getElem (by omega)⟩
  have h1:=h.ge _ v hv
  have h2:=h.rng v (List.mem_of_getElem? hv)
  omega
theorem OsF.lt {s:ByteArray} {file:Int} {os:List jr} (h:OsF s file os):∀ (k i:Nat) (u v:jr),os[i]?=some u→os[i+1+k]?=some v→u.end_≤v.at_:=by
 intro k
 induction k with
 | zero=>intro i u v hu hv; exact h.rise i u v hu hv
 | succ k ih =>
  intro i u v hu hv
  have hlt:=(List.getElem?_eq_some_iff.1 hv).1
  obtain ⟨x,hx⟩:∃ x,os[i+1+k]?=some x:=⟨_,List.getElem?_eq_getElem (by omega)⟩
  have h1:=ih i u x hu hx
  have h2:=h.rng x (List.mem_of_getElem? hx)
  have h3:=h.rise (i+1+k) x v hx (by rw [show i+1+k+1=i+1+(k+1) by omega]; exact hv)
  omega
def Rh (i:Nat) (f:ji) (first:Int) (q:PV) (nd:Br):Prop:=(∃ y0 n ts,Ha f.2 i first q nd y0 n ts)∧OsF f.2 i q.os
theorem MP (i:Nat) (f:ji) (hs:f.2.size≤5000) (first:Int) (w:World) (h0:0≤first) (h1:first≤1000000) (hk:Kw w) :
  Calls Tryz.prog 17 #[.string f.2,.int .i64 i,.int .i64 first] w (Rf jT Rh i f first w):=by
 refine (wH f.2 (by omega) i first (WalkArith.wf_i64 (by omega)) w hk).mono ?_
 rintro x W ⟨hb,⟨a,c,hc,he,rfl⟩ | ⟨y0,n,v,oa,m,ts,hfa,⟨nd,rfl,hl,hp,hon⟩,hoa,rfl⟩⟩
 ·exact ⟨hb,.inl ⟨a,c,hc,he,rfl⟩⟩
 ·obtain ⟨nd2,_,hof⟩:=Ph f.2 hs i first h0 h1 hfa
  obtain ⟨ov,hov,hri⟩:=hof.occ
  have hget:∀ j,j < m→((List.range m).map ov)[j]?=some (ov j):=fun j hj=>by simp [hj]
  have Ic:OsF f.2 i ((List.range m).map ov):=by
   refine ⟨fun v hv=>?_,fun v hv=>?_,fun v hv=>?_,fun j u v hu hv=>?_⟩
   ·obtain ⟨j,hj,rfl⟩:=List.mem_map.1 hv
    exact (hov j (List.mem_range.1 hj)).2.1
   ·obtain ⟨j,hj,rfl⟩:=List.mem_map.1 hv
    obtain ⟨_,_,q1,q2,q3,_⟩:=hov j (List.mem_range.1 hj)
    exact ⟨q1,q2,q3⟩
   ·obtain ⟨j,hj,rfl⟩:=List.mem_map.1 hv
    exact (hov j (List.mem_range.1 hj)).2.2.2.2.2
   ·have hjl:=(List.getElem?_eq_some_iff.1 hv).1
    simp at hjl
    rw [hget j (by omega)] at hu
    rw [hget (j+1) hjl] at hv
    rw [← Option.some.inj hu,← Option.some.inj hv]
    exact hri j hjl
  have Un:Ha f.2 i first ⟨⟨f,nd.h,first,oa,m⟩,(List.range m).map ov⟩ nd y0 n ts:=by
   refine ⟨hfa.ok,hp,hfa.rise,by simpa using hfa.len,hfa.mem,fun j t hj=>?_⟩
   obtain ⟨z,hz,k,hk2,ho⟩:=hfa.occ j t hj
   have hjm:j < m:=by rw [← hfa.len]; exact (List.getElem?_eq_some_iff.1 hj).1
   refine ⟨z,hz,k,hk2,?_⟩
   show ((List.range m).map ov)[j]?=_
   rw [hget j hjm]
   exact congrArg some ((hov j hjm).1.inj ho)
  have hpv:zK W ⟨⟨f,nd.h,first,oa,m⟩,(List.range m).map ov⟩:=by
   refine ⟨by simp,hof.oal,fun j v hj=>?_⟩
   have hjm:=(List.getElem?_eq_some_iff.1 hj).1
   simp at hjm
   have hj2:((List.range m).map ov)[j]?=some v:=hj
   rw [hget j hjm] at hj2
   rw [← Option.some.inj hj2]
   exact (hov j hjm).1
  exact ⟨hb,.inr ⟨⟨⟨f,nd.h,first,oa,m⟩,(List.range m).map ov⟩,nd,⟨⟨y0,n,ts,Un⟩,Ic⟩,rfl,rfl,rfl,hl,hon,hoa,hpv,Ic.len,rfl⟩⟩
theorem IX {S:Src} {o:Out Pb} (h:Inn.Fin S 0 0 o):(∀ n,fA S o=.form n→n < S.ts.length)∧(∀ n,fA S o=.deep n→n < S.ts.length):=by
 unfold fA
 cases o with
 | ok b k =>
  simp only [Out.bind]
  cases hz:(S.kd k == 0)
  ·exact ⟨fun n e=>(by injection e with e; subst e; exact h.2),fun n e=>(by cases e)⟩
  ·exact ⟨fun n e=>(by cases e),fun n e=>(by cases e)⟩
 | form k=>exact ⟨fun n e=>(by injection e with e; subst e; exact h),fun n e=>(by cases e)⟩
 | deep k=>exact ⟨fun n e=>(by cases e),fun n e=>(by injection e with e; subst e; exact h)⟩
 | dry=>exact absurd h id
structure Ahd (s t:ByteArray) (K:Nat):Prop where
 data:∃ M,oG M∧M.length=K∧t.data.toList=M++s.data.toList
theorem Ahd.words {s t:ByteArray} {K:Nat} (h:Ahd s t K):aN t=(aN s).map (onT K)∧t.size=s.size+K:=by
 obtain ⟨M,h1,rfl,h2⟩:=h.data
 exact FV s t M h1 h2
theorem Ahd.part {s t:ByteArray} {K:Nat} (h:Ahd s t K) (a e:Nat):t.extract (a+K) (e+K)=s.extract a e:=by
 obtain ⟨M,_,rfl,h2⟩:=h.data
 refine zC ?_
 rw [ext_list,ext_list,h2,show e+M.length=M.length+e by omega,List.take_length_add_append,show a+M.length=M.length+a by omega,List.drop_length_add_append]
theorem Ahd.sh {s t:ByteArray} {K:Nat} (h:Ahd s t K) {S S':Src} (h1:S.s=s) (h2:S.ts=aN s) (h3:S'.s=t) (h4:S'.ts=aN t):Sh S S' 0∧∀ n,n < S.ts.length→S'.pl n=S.pl n+K:=by
 obtain ⟨hw,_⟩:=h.words
 have hts:S'.ts=S.ts.map (onT K):=by rw [h4,h2,hw]
 refine ⟨⟨fun i=>?_,fun i=>?_,by rw [hts]; simp⟩,fun n hn=>?_⟩
 ·unfold Src.kd
  rw [hts,List.getElem?_map,Nat.add_zero]
  cases S.ts[i]? <;> rfl
 ·unfold Src.tx
  rw [hts,List.getElem?_map,Nat.add_zero,h1,h3]
  cases S.ts[i]? with
  | none=>rfl
  | some x=>exact h.part x.a x.e
 ·unfold Src.pl
  rw [hts,List.getElem?_map,List.getElem?_eq_getElem hn]
  simp [onT]
theorem O4 {s t:ByteArray} {K:Nat} (h:Ahd s t K) (a:Nat):uA t (a+K)=uA s a:=by
 obtain ⟨M,_,rfl,h2⟩:=h.data
 unfold uA
 rw [h2,show a+M.length=M.length+a by omega,List.drop_length_add_append]
theorem I9 {s t:ByteArray} {K:Nat} (h:Ahd s t K) (l:List Tok):firstT t (l.map (onT K))=((firstT s l).1+K,(firstT s l).2):=by
 induction l with
 | nil =>
  have:=h.words.2
  simp only [List.map_nil,firstT]
  rw [this]
  simp
 | cons x r ih =>
  have hn:iI (onT K x)=iI x:=rfl
  simp only [List.map_cons,firstT,hn,ih]
  cases iI x
  ·simp only [cond_false,Prod.mk.injEq]
   refine ⟨?_,O4 h x.a⟩
   show ((x.a+K:Nat):Int)=_
   omega
  ·rfl
theorem Ahd.first {s t:ByteArray} {K:Nat} (h:Ahd s t K):(fC t).1=(fC s).1+K∧(fC t).2=(fC s).2:=by
 rw [nC,nC,h.words.1,I9 h]
 exact ⟨rfl,rfl⟩
theorem Ahd.err {s t:ByteArray} {K:Nat} (h:Ahd s t K) {a c a' c':Int} (h1:jT s a c) (h2:jT t a' c'):a'=a+K∧c'=c:=by
 obtain ⟨f1,f2⟩:=h.first
 rcases h1 with ⟨e1,rfl,rfl⟩ | ⟨e0,S,a1,a2,a3,ha⟩
 ·rcases h2 with ⟨_,rfl,rfl⟩ | ⟨k0,_⟩
  ·exact ⟨f1,f2⟩
  ·rw [f2] at k0; exact absurd k0 e1
 ·rcases h2 with ⟨k1,_⟩ | ⟨_,S',b1,b2,b3,hb⟩
  ·rw [f2] at k1; exact absurd e0 k1
  ·obtain ⟨hs,hp⟩:=h.sh a1 a2 b1 b2
   have hd:=qi hs a3 (by rw [a2,a1])
   have hpos:0 < S.ts.length:=FC S (by rw [a2,a1])
   obtain ⟨i1,i2⟩:=IX (S:=S) (o:=jG S) (Inn.fileO_fin a3 (F:=fuel S) (Nat.le_refl _) hpos)
   rcases ha with ⟨n,g1,rfl,rfl⟩ | ⟨n,g1,rfl,rfl⟩ <;> rcases hb with ⟨m,g2,rfl,rfl⟩ | ⟨m,g2,rfl,rfl⟩
   ·rw [g1,g2] at hd; injection hd with hd; subst hd; exact ⟨hp _ (i1 _ g1),rfl⟩
   ·rw [g1,g2] at hd; cases hd
   ·rw [g1,g2] at hd; cases hd
   ·rw [g1,g2] at hd; injection hd with hd; subst hd; exact ⟨hp _ (i2 _ g1),rfl⟩
theorem Ahd.ok {s t:ByteArray} {K:Nat} (h:Ahd s t K) {x y:Pb} {n m:Nat} (h1:pz s x n) (h2:pz t y m):y=x:=by
 obtain ⟨_,S,a1,a2,a3,a4⟩:=h1
 obtain ⟨_,S',b1,b2,b3,b4⟩:=h2
 have:=qi (h.sh a1 a2 b1 b2).1 a3 (by rw [a2,a1])
 rw [a4,b4] at this
 injection this
theorem Ahd.mix {s t:ByteArray} {K:Nat} (h:Ahd s t K) {x:Pb} {n:Nat} {a c:Int} (h1:pz s x n) (h2:jT t a c):False:=by
 obtain ⟨h0,S,a1,a2,a3,a4⟩:=h1
 rcases h2 with ⟨k1,_⟩ | ⟨_,S',b1,b2,b3,hb⟩
 ·rw [h.first.2] at k1; exact k1 h0
 ·have hd:=qi (h.sh a1 a2 b1 b2).1 a3 (by rw [a2,a1])
  rcases hb with ⟨m,g,_⟩ | ⟨m,g,_⟩ <;> (rw [a4,g] at hd; cases hd)
theorem Ahd.mix2 {s t:ByteArray} {K:Nat} (h:Ahd s t K) {x:Pb} {n:Nat} {a c:Int} (h1:jT s a c) (h2:pz t x n):False:=by
 obtain ⟨h0,S',b1,b2,b3,b4⟩:=h2
 rcases h1 with ⟨k1,_⟩ | ⟨_,S,a1,a2,a3,hb⟩
 ·rw [h.first.2] at h0; exact k1 h0
 ·have hd:=qi (h.sh a1 a2 b1 b2).1 a3 (by rw [a2,a1])
  rcases hb with ⟨m,g,_⟩ | ⟨m,g,_⟩ <;> (rw [b4,g] at hd; cases hd)
theorem P7 (L:List (Int × List Int)):(L.flatMap (·.2)).Nodup→∀ p q:Int × List Int,p ∈ L→q ∈ L→∀ (i j:Nat) (t:Int),p.2[i]?=some t→q.2[j]?=some t→p=q∧i=j:=by
 induction L with
 | nil=>intro _ p q h; cases h
 | cons x r ih =>
  intro hn p q hp hq i j t hi hj
  simp only [List.flatMap_cons,List.nodup_append] at hn
  obtain ⟨n1,n2,n3⟩:=hn
  have mem:∀ (u:Int × List Int) (k:Nat),u ∈ r→u.2[k]?=some t→t ∈ r.flatMap (·.2):=fun u k hu hk=>List.mem_flatMap.2 ⟨u,hu,List.mem_of_getElem? hk⟩
  rcases List.mem_cons.1 hp with rfl | hp2 <;> rcases List.mem_cons.1 hq with rfl | hq2
  ·refine ⟨rfl,?_⟩
   have hl:=(List.getElem?_eq_some_iff.1 hi).1
   exact (List.getElem?_inj hl n1).1 (hi.trans hj.symm)
  ·exact absurd rfl (n3 t (List.mem_of_getElem? hi) t (mem q j hq2 hj))
  ·exact absurd rfl (n3 t (List.mem_of_getElem? hj) t (mem p i hp2 hi))
  ·exact ih n2 p q hp2 hq2 i j t hi hj
def onO (K:Nat) (v:jr):jr:=⟨v.file,v.at_+K,v.end_+K,v.sp,v.decl⟩
theorem Qr {L:List Tok} {K:Nat} (file k:Int) (n i:Nat) (t:Int) (h:t.toNat < L.length):oH (L.map (onT K)) file k n i t=onO K (oH L file k n i t):=by
 unfold oH onO
 rw [List.getElem?_map,List.getElem?_eq_getElem h]
 simp [onT]
theorem Pg {L L':List Tok} {ts:List Int}:∀ (a:Br) (x:Pb) (b:Br),a.pb=yu L 0 ts x→b.pb=yu L' 0 ts x→a.Alk false b:=by
 intro a
 induction a using Br.ind with
 | hP h ks ih =>
  rintro ⟨k,m,f,t,ns,xs⟩ ⟨g,js⟩ ha hb
  simp only [Br.pb,eY,yu,Pb.mk.injEq] at ha hb
  obtain ⟨a1,a2,_,_,a5,a6⟩:=ha
  obtain ⟨b1,b2,_,_,b5,b6⟩:=hb
  simp only [Br.Alk,Br.h,Br.ks]
  refine ⟨by rw [a1,b1],by rw [a2,b2],by rw [a5,b5],(by simp),(BO false ks js).2 ?_⟩
  rw [yQ] at a6 b6
  have la:=congrArg List.length a6
  have lb:=congrArg List.length b6
  rw [List.length_map,List.length_map] at la lb
  refine ⟨by rw [la,lb],fun i h1 h2=>ih _ (List.getElem_mem h1) (xs[i]'(by omega)) _ ?_ ?_⟩
  ·have:=congrArg (fun l=>l[i]?) a6
   simp only [List.getElem?_map,List.getElem?_eq_getElem h1,List.getElem?_eq_getElem (show i < xs.length by omega),Option.map_some,Option.some.injEq] at this
   exact this
  ·have:=congrArg (fun l=>l[i]?) b6
   simp only [List.getElem?_map,List.getElem?_eq_getElem h2,List.getElem?_eq_getElem (show i < xs.length by omega),Option.map_some,Option.some.injEq] at this
   exact this
theorem Lp (L:List Tok) (ts:List Int):(x:Pb)→(yu L 0 ts x).wt=x.wt
 | .mk k m f t ns ks=>by
  have:∀ l:List Pb,(∀ y ∈ l,(yu L 0 ts y).wt=y.wt)→wtL (yH L 0 ts l)=wtL l:=by
   intro l
   induction l with
   | nil=>intro _; rfl
   | cons y r ih=>intro hh; simp only [yH,wtL]; rw [hh y (by simp),ih fun z hz=>hh z (by simp [hz])]
  simp only [yu,Pb.wt,List.length_map]
  rw [this ks fun y hy=>Lp L ts y]
theorem Ahd.same {s t:ByteArray} {K:Nat} (h:Ahd s t K) (hs:s.size≤5000) {q q':PV} {nd nd' y0 y0':Br} {n n':Nat} {ts ts':List Int}
  (h1:Ha s 0 0 q nd y0 n ts) (h2:Ha t 0 0 q' nd' y0' n' ts'):q'.os=q.os.map (onO K)∧nd.Alk false nd'∧nd.Few:=by
 have hx:=h.ok h1.ok h2.ok
 have R:=zV (by omega) (by omega) h1.ok
 have hts:ts'=ts:=by
  refine xu h2.rise h1.rise fun x=>?_
  rw [h2.mem x,h1.mem x,mQ,mQ,hx]
 subst hts
 have hw:=h.words.1
 have hL:Hid ((lu y0.pb).flatMap (·.2)).Nodup:=Lib.hid (by rw [← mQ]; exact R.nd)
 have p1:=h1.pb
 have p2:=h2.pb
 rw [GI] at p1 p2
 rw [hx] at p2
 refine ⟨?_,Pg nd y0.pb nd' p1 p2,zl nd (by rw [p1,Lp]; exact R.wt)⟩
 have hl1:=h1.len
 have hl2:=h2.len
 refine List.ext_getElem? fun i=>?_
 rcases Nat.lt_or_ge i ts'.length with hi | hi
 ·obtain ⟨x,hxi⟩:∃ x,ts'[i]?=some x:=⟨_,List.getElem?_eq_getElem hi⟩
  obtain ⟨z,hz,j,hj,ho⟩:=h1.occ i x hxi
  obtain ⟨z',hz',j',hj',ho'⟩:=h2.occ i x hxi
  have m1:(z.h.k,z.h.ns) ∈ lu y0.pb:=by rw [← oV]; exact List.mem_map.2 ⟨z,hz,rfl⟩
  have m2:(z'.h.k,z'.h.ns) ∈ lu y0.pb:=by rw [← hx,← oV]; exact List.mem_map.2 ⟨z',hz',rfl⟩
  obtain ⟨e,rfl⟩:=P7 _ hL.out _ _ m1 m2 j j' x hj hj'
  obtain ⟨e1,e2⟩:=Prod.mk.inj e
  have hin:=R.inn x ((h1.mem x).1 (List.mem_of_getElem? hxi))
  rw [ho',List.getElem?_map,ho,← e1,← e2,hw,Qr _ _ _ _ _ (by omega)]
  rfl
 ·rw [List.getElem?_eq_none (by omega),List.getElem?_eq_none (by rw [List.length_map]; omega)]
end Go.Proofs.YtmpmfamiegpmgaaGreatDoor
