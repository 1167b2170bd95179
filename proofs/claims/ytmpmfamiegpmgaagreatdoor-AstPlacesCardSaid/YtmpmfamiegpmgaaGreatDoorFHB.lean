/-
  The document's lexer: the token at a place.
-/
import Derived.Test.YtmpmfamiegpmgaaGreatDoorFHA
import Derived.Test.YtmpmfamiegpmgaaGreatDoorFI
namespace Go.Proofs.YtmpmfamiegpmgaaGreatDoor
open Tryz
open Go.Lib (cell_of_heap hid toList_data)
open Go.RowKit
set_option maxRecDepth 20000
set_option linter.unusedVariables false
set_option linter.unusedSimpArgs false
theorem jE (g:UInt8→Bool) (s:ByteArray) (k:Nat) (h:k < s.size) (hg:g s[k]=true):az (aU g) () (s.data.toList.drop k)=1+az (aU g) () (s.data.toList.drop (k+1)):=by
 rw [drop_at s k h]
 simp only [az,aU,hg,cond_true]
 have e:az (fun (x:Unit) d=>((),g d)) () (s.data.toList.drop (k+1))=az (aU g) () (s.data.toList.drop (k+1)):=rfl
 omega
theorem sU (g:UInt8→Bool) (s:ByteArray) (k:Nat) (h:k < s.size) (hg:g s[k]=false):az (aU g) () (s.data.toList.drop k)=0:=by
 rw [drop_at s k h]
 simp [az,aU,hg]
theorem pM (g:UInt8→Bool) (s:ByteArray) (k:Nat) (h:s.size≤k):az (aU g) () (s.data.toList.drop k)=0:=by
 rw [List.drop_eq_nil_of_le (by rw [aW]; exact h)]; rfl
structure jq (W:World) (b:Nat) (x y z:Int):Prop where
 cells:W.heap[b]?=some (.cells #[.int .i64 x,.int .i64 y,.int .i64 z] 119 (0,0))
section
variable {W W':World} {b:Nat} {x y z:Int}
theorem jq.c0 (h:jq W b x y z):W.cell? ⟨b,0,none⟩=some (.int .i64 x):=cell_of_heap h.cells 0
theorem jq.c1 (h:jq W b x y z):W.cell? ⟨b,1,none⟩=some (.int .i64 y):=cell_of_heap h.cells 1
theorem jq.c2 (h:jq W b x y z):W.cell? ⟨b,2,none⟩=some (.int .i64 z):=cell_of_heap h.cells 2
theorem jq.f (h:jq W b x y z) (i:Nat):W.frozen? ⟨b,i,none⟩=false:=aA h.cells i
theorem jq.lt (h:jq W b x y z):b < W.heap.size:=(Array.getElem?_eq_some_iff.1 h.cells).1
theorem jq.step (h:jq W b x y z) (hb:Below W.heap.size W W'):jq W' b x y z:=⟨(hb.block _ h.lt).trans h.cells⟩
theorem jq.keep (h:jq W b x y z) {g:Nat} (hg:W.grownBy W' (some g)) (hn:b≠g):jq W' b x y z:=⟨(hg.block _ h.lt (fun e=>hn (Option.some.inj e))).trans h.cells⟩
theorem jq.set0 (h:jq W b x y z) (x':Int):jq (W.setCell ⟨b,0,none⟩ (.int .i64 x')) b x' y z:=⟨by rw [heap_setCell_same W b 0 _ _ _ h.cells]; rfl⟩
theorem jq.set1 (h:jq W b x y z) (x':Int):jq (W.setCell ⟨b,1,none⟩ (.int .i64 x')) b x x' z:=⟨by rw [heap_setCell_same W b 1 _ _ _ h.cells]; rfl⟩
theorem jq.set2 (h:jq W b x y z) (x':Int):jq (W.setCell ⟨b,2,none⟩ (.int .i64 x')) b x y x':=⟨by rw [heap_setCell_same W b 2 _ _ _ h.cells]; rfl⟩
theorem jq.set (h:jq W b x y z) (x' y' z':Int):jq (((W.setCell ⟨b,0,none⟩ (.int .i64 x')).setCell ⟨b,1,none⟩ (.int .i64 y')).setCell ⟨b,2,none⟩ (.int .i64 z')) b x' y' z':=((h.set0 x').set1 y').set2 z'
end
structure Nx (w:World) (k:Int) (a E:Nat) (W:World):Prop where
 own:jq W (w.heap.size+1) k a E
 res:jq W w.heap.size 0 0 0
 below:Below w.heap.size w W
section
variable {w W W':World} {k:Int} {a E:Nat}
theorem Nx.step (h:Nx w k a E W) (hb:Below W.heap.size W W'):Nx w k a E W':=⟨h.own.step hb,h.res.step hb,h.below.trans (hb.mono h.below.size)⟩
theorem Nx.setE (h:Nx w k a E W) (E':Nat):Nx w k a E' (W.setCell ⟨w.heap.size+1,2,none⟩ (.int .i64 (E':Int))) :=
 ⟨h.own.set2 _,h.res.keep (aS _ _ _) (by omega),h.below.grown (aS _ _ _) h.below.size (fun q hq=>by have:=Option.some.inj hq; omega)⟩
theorem Nx.setK (h:Nx w k a E W) (k':Int):Nx w k' a E (W.setCell ⟨w.heap.size+1,0,none⟩ (.int .i64 k')) :=
 ⟨h.own.set0 _,h.res.keep (aS _ _ _) (by omega),h.below.grown (aS _ _ _) h.below.size (fun q hq=>by have:=Option.some.inj hq; omega)⟩
theorem qP (w:World) (k:Int) (a E:Nat):Nx w k a E ((w.alloc (.cells #[.int .i64 0,.int .i64 0,.int .i64 0] 119)).alloc (.cells #[.int .i64 k,.int .i64 (a:Int),.int .i64 (E:Int)] 119)):=by
 have h1:=heap_alloc_new w (.cells #[.int .i64 0,.int .i64 0,.int .i64 0] 119)
 have b1:Below w.heap.size w (w.alloc (.cells #[.int .i64 0,.int .i64 0,.int .i64 0] 119)):=(Below.refl _ _).alloc (Nat.le_refl _) _
 generalize hA:w.alloc (.cells #[.int .i64 0,.int .i64 0,.int .i64 0] 119)=A at *
 have hz:A.heap.size=w.heap.size+1:=by rw [← hA]; simp
 have h2:=heap_alloc_new A (.cells #[.int .i64 k,.int .i64 (a:Int),.int .i64 (E:Int)] 119)
 have b2:Below A.heap.size A (A.alloc (.cells #[.int .i64 k,.int .i64 (a:Int),.int .i64 (E:Int)] 119)):=(Below.refl _ _).alloc (Nat.le_refl _) _
 rw [hz] at h2
 exact ⟨⟨h2⟩,⟨(b2.block _ (by omega)).trans h1⟩,b1.trans (b2.mono b1.size)⟩
end
theorem Gg (s:ByteArray) (h:0 < s.size) (hd:dW s[0]=true):bJ s=0:=by
 have hb:ig s=0:=by
  rw [jD s h]
  have h1:fP s[0]=false:=by unfold dW at hd; unfold fP; simp at hd ⊢; omega
  have h2:gZ s[0]=false:=by unfold dW at hd; unfold gZ; simp at hd ⊢; omega
  have h3:bC s[0]=false:=pR _ (by unfold bg; simp [hd])
  have h4:((s[0].toNat:Int) == 39)=false:=by unfold dW at hd; simp at hd ⊢; omega
  rw [h1,h2,h3,h4]; rfl
 have hm:mkB s=false:=by
  cases e:mkB s
  ·rfl
  ·exfalso
   rw [ER] at e
   have hx:s.toList=s[0] :: s.data.toList.drop 1:=by rw [toList_data]; exact pK s h
   rw [hx] at e
   have h0:∀ n:UInt8,n.toNat < 48∨57 < n.toNat→s[0]≠n:=fun n hn e=>by
    subst e
    unfold dW at hd; simp at hd; omega
   have z1:=h0 40 (by decide); have z2:=h0 41 (by decide); have z3:=h0 44 (by decide); have z4:=h0 46 (by decide)
   have z5:=h0 59 (by decide); have z6:=h0 95 (by decide); have z7:=h0 61 (by decide); have z8:=h0 124 (by decide)
   have z9:=h0 58 (by decide); have z10:=h0 45 (by decide)
   simp [z1,z2,z3,z4,z5,z6,z7,z8,z9,z10] at e
 unfold bJ
 rw [hm,hb]; rfl
def dgB (s:ByteArray) (a E:Nat):Bool:=((s.data.toList.drop a).take (E - a)).all dW
theorem Qz (s:ByteArray) (a:Nat) (h:a < s.size):dgB s a (a+1)=dW s[a]:=by
 unfold dgB
 rw [drop_at s a h,show a+1 - a=1 by omega]; simp
theorem MW (s:ByteArray) (a E:Nat) (h:E < s.size) (ha:a≤E):dgB s a (E+1)=(dgB s a E && dW s[E]):=by
 unfold dgB
 have hl:E - a < (s.data.toList.drop a).length:=by rw [List.length_drop,aW]; omega
 rw [show E+1 - a=(E - a)+1 by omega,List.take_succ_eq_append_getElem hl,List.all_append]
 have:(s.data.toList.drop a)[E - a]'hl=s[E]:=by
  rw [List.getElem_drop]
  have:=jy s E h
  simp only [show a+(E - a)=E by omega,this]
 rw [this]; simp
theorem Bf (l:List UInt8):(az (aU dW) () l == l.length)=l.all dW:=by
 induction l with
 | nil=>rfl
 | cons c r ih =>
  simp only [az,aU,List.length_cons,List.all_cons]
  cases dW c
  ·simp
  ·simp only [cond_true,Bool.true_and,← ih]
   rw [Bool.eq_iff_iff]; simp [aU]
def kdN (s:ByteArray) (a E:Nat):Int:=bif dgB s a E then 4 else bif bJ (s.extract a E) == 0 then 3 else bJ (s.extract a E)
theorem uq (s:ByteArray) (a n:Nat) (h:a+n≤s.size) (hn:0 < n):df (s.extract a (a+n)).data.toList=kdN s a (a+n):=by
 have hx:(s.extract a (a+n)).data.toList=(s.data.toList.drop a).take n:=extract_drop s a n
 have hsz:0 < (s.extract a (a+n)).size:=by simp; omega
 have h0:(s.extract a (a+n)).data.toList=(s.extract a (a+n))[0] :: (s.extract a (a+n)).data.toList.drop 1:=pK _ hsz
 have hb:bsOf (s.extract a (a+n)).data.toList=s.extract a (a+n):=by unfold bsOf; exact Lib.mk_data _
 have hd:dgB s a (a+n)=(s.extract a (a+n)).data.toList.all dW:=by unfold dgB; rw [hx,show a+n - a=n by omega]
 have hk:=Gg _ hsz
 unfold kdN
 rw [hd]
 unfold df
 rw [← Bf]
 generalize hp:s.extract a (a+n)=p at *
 rw [h0]
 simp only
 rw [← h0,hb]
 cases e:dW p[0]
 ·have:(az (aU dW) () p.data.toList == p.data.toList.length)=false:=by
   rw [Bf,h0]; simp [e]
  rw [this]; simp
 ·rw [hk e]; simp
set_option maxHeartbeats 4000000 in
theorem BU (s:ByteArray) (hs:s.size≤1000000) (a:Nat) (ha:a < s.size) (h1:bD s[a]=true) (w:World) :
  Calls prog 111 #[.string s,.int .i64 a] w fun e w'=>e=.returned (ut a (bf (s.data.toList.drop a)))∧Below w.heap.size w w':=by
 have hT:=sH s a ha
 rw [h1] at hT
 have hP:=jE bD s a ha h1
 have HB:=fun W=>ik s[a] W
 rw [h1] at HB
 obtain ⟨T,EN⟩:∃ T:Nat,T=a+az (aU bD) () (s.data.toList.drop a):=⟨_,rfl⟩
 have hT2:bf (s.data.toList.drop a)=(1,T - a):=by rw [hT,EN]; simp
 have H0:=hid (show T=a+1+az (aU bD) () (s.data.toList.drop (a+1)) by rw [EN,hP]; omega)
 have HT:=hid hT2
 clear h1 hT hP EN hT2
 go_enter func111,ntmps111
 go_wp2_with fail
 refine (HB _).mono ?_
 rintro e w1 ⟨rfl,rfl⟩
 go_wp2_with fail
 have HN:=hid (qP w 1 a (a+1))
 rw [show ((a+1:Nat):Int)=(a:Int)+1 by omega] at HN
 generalize ((w.alloc (.cells #[.int .i64 0,.int .i64 0,.int .i64 0] 119)).alloc (.cells #[.int .i64 1,.int .i64 (a:Int),.int .i64 ((a:Int)+1)] 119))=W0 at *
 clear HB
 go_loopg [] (s.size+1) (fun gk wr=>∃ E:Nat,E+gk=s.size+1+(a+1)∧a < E∧E≤s.size∧Hid (T=E+az (aU bD) () (s.data.toList.drop E))∧Hid (Nx w 1 a E wr))
 case atStart=>exact ⟨a+1,by omega,by omega,by omega,H0,HN⟩
 case round =>
  obtain ⟨E,hg,Q7,hE,hq,hn⟩:=hrel
  have c0:=hn.out.own.c0
  have c1:=hn.out.own.c1
  have c2:=hn.out.own.c2
  have f0:=hn.out.own.f 0
  have f2:=hn.out.own.f 2
  have r0:=hn.out.res.c0
  have r1:=hn.out.res.c1
  have r2:=hn.out.res.c2
  have g0:=hn.out.res.f 0
  have g1:=hn.out.res.f 1
  have g2:=hn.out.res.f 2
  clear H0 HN
  by_cases hlt:E < s.size
  ·have HC:=fun W=>ik s[E] W
   cases h1:bD s[E]
   ·rw [h1] at HC
    have HE:=hid (hq.out.trans (by rw [sU bD s E hlt h1]))
    clear hq h1
    go_wp2_with fail
    refine (HC _).mono ?_
    rintro e w1 ⟨rfl,rfl⟩
    go_wp2_with fail
    have HR2:=hn.out.res.set 1 (a:Int) (E:Int)
    have HB2:=hid (((hn.out.below.setCell (p:=⟨w.heap.size,0,none⟩) (Nat.le_refl _) (.int .i64 1)).setCell (p:=⟨w.heap.size,1,none⟩) (Nat.le_refl _) (.int .i64 (a:Int))).setCell (p:=⟨w.heap.size,2,none⟩) (Nat.le_refl _) (.int .i64 (E:Int)))
    clear c0 c1 c2 f0 f2 r0 r1 r2 g0 g1 g2 hn
    generalize (((wr.setCell ⟨w.heap.size,0,none⟩ (.int .i64 1)).setCell ⟨w.heap.size,1,none⟩ (.int .i64 (a:Int))).setCell ⟨w.heap.size,2,none⟩ (.int .i64 (E:Int)))=W2 at *
    have c0:=HR2.c0
    have c1:=HR2.c1
    have c2:=HR2.c2
    try simp only [Exit.inBlock,Exit.then]
    refine bodyPost_ret (by simp [results,results111,go_sem,c0,c1,c2,Result.andThen]; try rfl) rfl ?_
    exact ⟨dP (E:=E) (by rw [HT.out,HE.out]; rfl) (by omega),HB2.out⟩
   ·rw [h1] at HC
    have HE:=hid (hq.out.trans (show E+_=E+1+az (aU bD) () (s.data.toList.drop (E+1)) by rw [jE bD s E hlt h1]; omega))
    have HX:=hid (hn.out.setE (E+1))
    have HI:=hid (show ((E:Int)+1)=((E+1:Nat):Int) by omega)
    clear hq h1
    go_wp2_with fail
    refine (HC _).mono ?_
    rintro e w1 ⟨rfl,rfl⟩
    go_wp2_with fail
    go_roundg (gk - 1)
    case rel=>exact ⟨E+1,by omega,by omega,by omega,HE,by rw [HI.out]; exact HX⟩
    case measure=>omega
  ·have HE:=hid (hq.out.trans (by rw [pM bD s E (by omega)]))
   have hge:¬ (E:Int) < (s.size:Int):=by omega
   clear hq
   go_wp2_with fail
   have HR2:=hn.out.res.set 1 (a:Int) (E:Int)
   have HB2:=hid (((hn.out.below.setCell (p:=⟨w.heap.size,0,none⟩) (Nat.le_refl _) (.int .i64 1)).setCell (p:=⟨w.heap.size,1,none⟩) (Nat.le_refl _) (.int .i64 (a:Int))).setCell (p:=⟨w.heap.size,2,none⟩) (Nat.le_refl _) (.int .i64 (E:Int)))
   clear c0 c1 c2 f0 f2 r0 r1 r2 g0 g1 g2 hn
   generalize (((wr.setCell ⟨w.heap.size,0,none⟩ (.int .i64 1)).setCell ⟨w.heap.size,1,none⟩ (.int .i64 (a:Int))).setCell ⟨w.heap.size,2,none⟩ (.int .i64 (E:Int)))=W2 at *
   have c0:=HR2.c0
   have c1:=HR2.c1
   have c2:=HR2.c2
   try simp only [Exit.inBlock,Exit.then]
   refine bodyPost_ret (by simp [results,results111,go_sem,c0,c1,c2,Result.andThen]; try rfl) rfl ?_
   exact ⟨dP (E:=E) (by rw [HT.out,HE.out]; rfl) (by omega),HB2.out⟩
theorem Jl (l:List UInt8):((eU l).1=2∨(eU l).1=3)∧((eU l).1=3→(eU l).2=l.length):=by
 unfold eU
 simp only
 cases e:(az nF (0,0) l == l.length)
 ·exact ⟨.inl rfl,fun h=>by simp at h⟩
 ·exact ⟨.inr rfl,fun _=>by simpa using e⟩
theorem FW (r:List UInt8):∀ n,n≤az qF false r→az (aU fK) () r=n+az (aU fK) () (r.drop n):=by
 have key:∀ (l:List UInt8) (e:Bool) n,n≤az qF e l→az (aU fK) () l=n+az (aU fK) () (l.drop n):=by
  intro l
  induction l with
  | nil=>intro e n h; simp [az] at h; subst h; simp
  | cons c l ih =>
   intro e n h
   cases n with
   | zero=>simp
   | succ n =>
    simp only [az] at h
    cases hq:(qF e c).2
    ·rw [hq] at h; simp at h
    ·rw [hq] at h
     simp only [cond_true] at h
     have hl:fK c=true:=by
      unfold fK
      cases hc:eqB c 10
      ·rfl
      ·unfold qF at hq
       unfold eqB at *
       rw [beq_iff_eq.1 hc] at hq
       cases e <;> simp at hq
     have:=ih (qF e c).1 n (by omega)
     simp only [az,aU,hl,cond_true,List.drop_succ_cons] at this ⊢
     have e2:az (fun (x:Unit) d=>((),fK d)) () l=az (aU fK) () l:=rfl
     have e3:az (fun (x:Unit) d=>((),fK d)) () (l.drop n)=az (aU fK) () (l.drop n):=rfl
     omega
 exact key r false
theorem Iw (r:List UInt8) (h:(dQ r).1≠5):dQ r=(3,1+az (aU fK) () r):=by
 unfold dQ at h ⊢
 simp only at h ⊢
 cases e:headB (r.drop (az qF false r)) 34
 ·simp only [e,cond_false]
  have:=FW r (az qF false r) (Nat.le_refl _)
  rw [this,Prod.mk.injEq]
  exact ⟨rfl,by omega⟩
 ·rw [e] at h; exact absurd rfl h
set_option maxHeartbeats 4000000 in
theorem F9 (s:ByteArray) (hs:s.size≤1000000) (a:Nat) (ha:a < s.size) (h1:((s[a].toNat:Int) == 40)=true) (h2:a+1 < s.size) (h3:((s[a+1].toNat:Int) == 42)=true) (w:World) :
  Calls prog 111 #[.string s,.int .i64 a] w fun e w'=>e=.returned (ut a (bf (s.data.toList.drop a)))∧Below w.heap.size w w':=by
 have hb1:bD s[a]=false:=by unfold bD eqB; rw [beq_iff_eq.1 h1]; rfl
 have hd:s.data.toList.drop a=40 :: 42 :: s.data.toList.drop (a+2):=by
  rw [oZ s a h2]
  have e1:s[a]=40:=xy (n:=40) h1
  have e2:s[a+1]=42:=xy (n:=42) h3
  rw [e1,e2]
 have hT:bf (s.data.toList.drop a)=eU (s.data.toList.drop a):=by rw [hd]; rfl
 have hN:dnR s 0 a=bif (eU (s.data.toList.drop a)).1 == 2 then ((a+(eU (s.data.toList.drop a)).2:Nat):Int) else 0:=by
  unfold dnR
  rw [hd,Qw]
  cases (eU (40 :: 42 :: s.data.toList.drop (a+2))).1 == 2 <;> rfl
 have hk:=Jl (s.data.toList.drop a)
 have hlen:(s.data.toList.drop a).length=s.size - a:=by rw [List.length_drop,aW]
 have zD:=uF (s.data.toList.drop a) (by omega)
 rw [hlen] at hk zD
 have HB:=fun W=>ik s[a] W
 rw [hb1] at HB
 have HD:=fun W=>JE s hs a ha W
 have h2':(a:Int)+1 < (s.size:Int):=by omega
 obtain ⟨j,hj⟩:∃ j:Nat,(a:Int)+1=(j:Int):=⟨a+1,by omega⟩
 have hjk:j=a+1:=by omega
 have hjlt:j < s.size:=by omega
 have h3':((s[j].toNat:Int) == 42)=true:=by
  have:∀ h,s[a+1]'h=s[j]:=fun h=>by simp [hjk]
  rw [← this]; exact h3
 generalize eU (s.data.toList.drop a)=q at *
 obtain ⟨k,m⟩:=q
 simp only at hN hk zD
 have HT:=hid hT
 have HK:=hid hk
 have HHB:=hid zD
 clear hd hT hb1 hjk h3 hk hlen h2
 by_cases hk2:k=2
 ·have hR:dnR s 0 a=((a+m:Nat):Int):=by rw [hN,hk2]; rfl
  obtain ⟨E,hE⟩:∃ E,E=a+m:=⟨_,rfl⟩
  rw [hR,← hE] at HD
  have hE0:(0:Int) < (E:Int):=by omega
  have HE:=hid hE
  have Ho:=hid hk2
  clear hN hR hk2 hE zD
  go_enter func111,ntmps111
  go_wp2_with fail
  refine (HB _).mono ?_
  rintro e w1 ⟨rfl,rfl⟩
  go_wp2_with fail
  refine (HD _).mono ?_
  rintro e w1 ⟨rfl,rfl⟩
  go_wp2_with fail
  go_returns
  exact ⟨dP (E:=E) (by rw [HT.out,Ho.out,HE.out]; simp) (by rw [HE.out]; omega),by go_grown⟩
 ·have hR:dnR s 0 a=0:=by
   rw [hN]
   have:(k == 2)=false:=by simpa using hk2
   rw [this]; rfl
  rw [hR] at HD
  have Ot:=hid (show k=3∧m=s.size - a by
   have h3:k=3:=HK.out.1.resolve_left hk2
   exact ⟨h3,HK.out.2 h3⟩)
  clear hN hR hk2 zD
  go_enter func111,ntmps111
  go_wp2_with fail
  refine (HB _).mono ?_
  rintro e w1 ⟨rfl,rfl⟩
  go_wp2_with fail
  refine (HD _).mono ?_
  rintro e w1 ⟨rfl,rfl⟩
  go_wp2_with fail
  go_returns
  exact ⟨dP (E:=s.size) (by rw [HT.out,Ot.out.1,Ot.out.2]) (by omega),by go_grown⟩
set_option maxHeartbeats 4000000 in
theorem EP (s:ByteArray) (hs:s.size≤1000000) (a:Nat) (ha:a < s.size) (h1:((s[a].toNat:Int) == 34)=true) (w:World) :
  Calls prog 111 #[.string s,.int .i64 a] w fun e w'=>e=.returned (ut a (bf (s.data.toList.drop a)))∧Below w.heap.size w w':=by
 have hb1:bD s[a]=false:=by unfold bD eqB; rw [beq_iff_eq.1 h1]; rfl
 have h40:((s[a].toNat:Int) == 40)=false:=by rw [beq_iff_eq.1 h1]; rfl
 have hd:s.data.toList.drop a=34 :: s.data.toList.drop (a+1):=by
  rw [drop_at s a ha]
  have e1:s[a]=34:=xy (n:=34) h1
  rw [e1]
 have hT:bf (s.data.toList.drop a)=dQ (s.data.toList.drop (a+1)):=by rw [hd]; rfl
 have hN:dtR s (a+1)=bif (dQ (s.data.toList.drop (a+1))).1 == 5 then ((a+(dQ (s.data.toList.drop (a+1))).2:Nat):Int) else 0:=by
  unfold dtR
  rw [PY _ _ (Nat.le_refl _)]
  unfold dQ
  simp only
  cases headB ((s.data.toList.drop (a+1)).drop (az qF false (s.data.toList.drop (a+1)))) 34
  ·rfl
  ·show ((a+1+(az qF false (s.data.toList.drop (a+1))+1):Nat):Int)=((a+(az qF false (s.data.toList.drop (a+1))+2):Nat):Int)
   omega
 have zD:=sF (s.data.toList.drop (a+1))
 have HB:=fun W=>ik s[a] W
 rw [hb1] at HB
 have HD:=fun W=>J8 s hs a ha W
 have HT:=hid hT
 by_cases hk2:(dQ (s.data.toList.drop (a+1))).1=5
 ·obtain ⟨m,hm⟩:∃ m,m=(dQ (s.data.toList.drop (a+1))).2:=⟨_,rfl⟩
  have HQ:Hid (dQ (s.data.toList.drop (a+1))=(5,m)):=hid (by rw [hm,← hk2])
  have hR:dtR s (a+1)=((a+m:Nat):Int):=by rw [hN,hk2,hm]; rfl
  obtain ⟨E,hE⟩:∃ E,E=a+m:=⟨_,rfl⟩
  rw [hR,← hE] at HD
  rw [← hm] at zD
  have hE0:(0:Int) < (E:Int):=by omega
  have HE:=hid hE
  clear hN hR hk2 hE zD hm hd hT hb1
  go_enter func111,ntmps111
  go_wp2_with fail
  refine (HB _).mono ?_
  rintro e w1 ⟨rfl,rfl⟩
  go_wp2_with fail
  refine (HD _).mono ?_
  rintro e w1 ⟨rfl,rfl⟩
  go_wp2_with fail
  go_returns
  exact ⟨dP (E:=E) (by rw [HT.out,HQ.out,HE.out]; simp) (by rw [HE.out]; omega),by go_grown⟩
 ·have hR:dtR s (a+1)=0:=by
   rw [hN]
   have:((dQ (s.data.toList.drop (a+1))).1 == 5)=false:=by simpa using hk2
   rw [this]; rfl
  rw [hR] at HD
  obtain ⟨T,EN⟩:∃ T:Nat,T=a+1+az (aU fK) () (s.data.toList.drop (a+1)):=⟨_,rfl⟩
  have HT2:Hid (bf (s.data.toList.drop a)=(3,T - a)):=hid (by rw [hT,Iw _ hk2,EN,Prod.mk.injEq]; exact ⟨rfl,by omega⟩)
  have H0:=hid EN
  clear hN hR hk2 zD hd hT hb1 EN HT
  go_enter func111,ntmps111
  go_wp2_with fail
  refine (HB _).mono ?_
  rintro e w1 ⟨rfl,rfl⟩
  go_wp2_with fail
  refine (HD _).mono ?_
  rintro e w1 ⟨rfl,rfl⟩
  go_wp2_with fail
  clear HB HD h1 h40
  have HN:=hid (qP w 3 a (a+1))
  rw [show ((a+1:Nat):Int)=(a:Int)+1 by omega] at HN
  generalize ((w.alloc (.cells #[.int .i64 0,.int .i64 0,.int .i64 0] 119)).alloc (.cells #[.int .i64 3,.int .i64 (a:Int),.int .i64 ((a:Int)+1)] 119))=W0 at *
  go_loopg [] (s.size+1) (fun gk wr=>∃ E:Nat,E+gk=s.size+1+(a+1)∧a < E∧E≤s.size∧Hid (T=E+az (aU fK) () (s.data.toList.drop E))∧Hid (Nx w 3 a E wr))
  case atStart=>exact ⟨a+1,by omega,by omega,by omega,H0,HN⟩
  case round =>
   obtain ⟨E,hg,Q7,hE,hq,hn⟩:=hrel
   have c0:=hn.out.own.c0
   have c1:=hn.out.own.c1
   have c2:=hn.out.own.c2
   have f0:=hn.out.own.f 0
   have f2:=hn.out.own.f 2
   have r0:=hn.out.res.c0
   have r1:=hn.out.res.c1
   have r2:=hn.out.res.c2
   have g0:=hn.out.res.f 0
   have g1:=hn.out.res.f 1
   have g2:=hn.out.res.f 2
   clear H0 HN
   by_cases hlt:E < s.size
   ·cases h1:((s[E].toNat:Int) == 10)
    ·have hl:fK s[E]=true:=by unfold fK eqB; rw [h1]; rfl
     have hne:((s[E].toNat:Int) != 10)=true:=by simp [bne,h1]
     have HE:=hid (hq.out.trans (show E+_=E+1+az (aU fK) () (s.data.toList.drop (E+1)) by rw [jE fK s E hlt hl]; omega))
     have HX:=hid (hn.out.setE (E+1))
     have HI:=hid (show ((E:Int)+1)=((E+1:Nat):Int) by omega)
     clear hq hl
     go_wp2_with fail
     go_roundg (gk - 1)
     case rel=>exact ⟨E+1,by omega,by omega,by omega,HE,by rw [HI.out]; exact HX⟩
     case measure=>omega
    ·have hl:fK s[E]=false:=by unfold fK eqB; rw [h1]; rfl
     have hne:((s[E].toNat:Int) != 10)=false:=by simp [bne,h1]
     have HE:=hid (hq.out.trans (by rw [sU fK s E hlt hl]))
     clear hq hl
     go_wp2_with fail
     have HR2:=hn.out.res.set 3 (a:Int) (E:Int)
     have HB2:=hid (((hn.out.below.setCell (p:=⟨w.heap.size,0,none⟩) (Nat.le_refl _) (.int .i64 3)).setCell (p:=⟨w.heap.size,1,none⟩) (Nat.le_refl _) (.int .i64 (a:Int))).setCell (p:=⟨w.heap.size,2,none⟩) (Nat.le_refl _) (.int .i64 (E:Int)))
     clear c0 c1 c2 f0 f2 r0 r1 r2 g0 g1 g2 hn
     generalize (((wr.setCell ⟨w.heap.size,0,none⟩ (.int .i64 3)).setCell ⟨w.heap.size,1,none⟩ (.int .i64 (a:Int))).setCell ⟨w.heap.size,2,none⟩ (.int .i64 (E:Int)))=W2 at *
     have c0:=HR2.c0
     have c1:=HR2.c1
     have c2:=HR2.c2
     try simp only [Exit.inBlock,Exit.then]
     refine bodyPost_ret (by simp [results,results111,go_sem,c0,c1,c2,Result.andThen]; try rfl) rfl ?_
     exact ⟨dP (E:=E) (by rw [HT2.out,HE.out]; rfl) (by omega),HB2.out⟩
   ·have HE:=hid (hq.out.trans (by rw [pM fK s E (by omega)]))
    have hge:¬ (E:Int) < (s.size:Int):=by omega
    clear hq
    go_wp2_with fail
    have HR2:=hn.out.res.set 3 (a:Int) (E:Int)
    have HB2:=hid (((hn.out.below.setCell (p:=⟨w.heap.size,0,none⟩) (Nat.le_refl _) (.int .i64 3)).setCell (p:=⟨w.heap.size,1,none⟩) (Nat.le_refl _) (.int .i64 (a:Int))).setCell (p:=⟨w.heap.size,2,none⟩) (Nat.le_refl _) (.int .i64 (E:Int)))
    clear c0 c1 c2 f0 f2 r0 r1 r2 g0 g1 g2 hn
    generalize (((wr.setCell ⟨w.heap.size,0,none⟩ (.int .i64 3)).setCell ⟨w.heap.size,1,none⟩ (.int .i64 (a:Int))).setCell ⟨w.heap.size,2,none⟩ (.int .i64 (E:Int)))=W2 at *
    have c0:=HR2.c0
    have c1:=HR2.c1
    have c2:=HR2.c2
    try simp only [Exit.inBlock,Exit.then]
    refine bodyPost_ret (by simp [results,results111,go_sem,c0,c1,c2,Result.andThen]; try rfl) rfl ?_
    exact ⟨dP (E:=E) (by rw [HT2.out,HE.out]; rfl) (by omega),HB2.out⟩
theorem Ed {c:UInt8} (h:bg c=true):bD c=false∧((c.toNat:Int) == 34)=false∧((c.toNat:Int) == 40)=false:=by
 unfold bg fP gZ dW at h
 unfold bD eqB
 simp at h ⊢
 omega
theorem Bz {c:UInt8} (h:bC c=true):bD c=false∧((c.toNat:Int) == 34)=false∧((c.toNat:Int) == 40)=false∧bg c=false:=by
 have hm:c ∈ lG:=by unfold bC at h; simpa using h
 have key:∀ c ∈ lG,bD c=false∧((c.toNat:Int) == 34)=false∧((c.toNat:Int) == 40)=false∧bg c=false:=by decide
 exact key c hm
theorem NW (s:ByteArray) (a:Nat) (ha:a < s.size) (h:bg s[a]=true):bf (s.data.toList.drop a)=(kdN s a (a+az (aU bg) () (s.data.toList.drop a)),az (aU bg) () (s.data.toList.drop a)):=by
 obtain ⟨h1,h2,h3⟩:=Ed h
 have hl:=eP (aU bg) () (s.data.toList.drop a)
 rw [List.length_drop,aW] at hl
 have hp:=jE bg s a ha h
 rw [sH s a ha,pO s a ha,h1,h2,show eqB s[a] 40=false from h3,h,← uq s a _ (by omega) (by omega)]
 rfl
theorem NM (s:ByteArray) (a:Nat) (ha:a < s.size) (h:bC s[a]=true):bf (s.data.toList.drop a)=(kdN s a (a+az (aU bC) () (s.data.toList.drop a)),az (aU bC) () (s.data.toList.drop a)):=by
 obtain ⟨h1,h2,h3,h4⟩:=Bz h
 have hl:=eP (aU bC) () (s.data.toList.drop a)
 rw [List.length_drop,aW] at hl
 have hp:=jE bC s a ha h
 rw [sH s a ha,pO s a ha,h1,h2,show eqB s[a] 40=false from h3,h4,h,← uq s a _ (by omega) (by omega)]
 rfl
theorem xA (s:ByteArray) (a:Nat) (ha:a < s.size) (h1:bD s[a]=false) (h2:((s[a].toNat:Int) == 34)=false) (h3:(eqB s[a] 40 && headB (s.data.toList.drop (a+1)) 42)=false) (h4:bg s[a]=false) (h5:bC s[a]=false):bf (s.data.toList.drop a)=(kdN s a (a+1),1):=by
 rw [sH s a ha,pO s a ha,h1,h2,h3,h4,h5,← uq s a 1 (by omega) (by omega)]
 rfl
theorem Ah (s:ByteArray) (a E:Nat) (ha:a < E) (hE:E≤s.size) (h:dW (s[a]'(by omega))=false):dgB s a E=false:=by
 unfold dgB
 rw [drop_at s a (by omega),show E - a=(E - a - 1)+1 by omega]
 simp [h]
theorem lD (s:ByteArray) (a E:Nat) (h1:a≤E) (h2:E≤s.size) (w:World):Sem.run prog (Instr.slice 9 (.string s) (some (.int .i64 a)) (some (.int .i64 E)) none) w=.ok (.string (s.extract a E)) w:=by
 have:=rY s a (E - a) (by omega) w
 rw [show (a:Int)+((E - a:Nat):Int)=(E:Int) by omega,show a+(E - a)=E by omega] at this
 exact this
theorem lh {s:ByteArray} {a E:Nat} (hd:dgB s a E=false) (hk:bJ (s.extract a E)=0):kdN s a E=3:=by unfold kdN; rw [hd,hk]; rfl
theorem kX {s:ByteArray} {a E:Nat} (hd:dgB s a E=false) (hk:bJ (s.extract a E)≠0):kdN s a E=bJ (s.extract a E):=by
 unfold kdN; rw [hd,show (bJ (s.extract a E) == 0)=false by simpa using hk]; rfl
theorem GU {s:ByteArray} {a E:Nat} (hd:dgB s a E=true):kdN s a E=4:=by unfold kdN; rw [hd]; rfl
set_option maxHeartbeats 4000000 in
theorem FY (s:ByteArray) (hs:s.size≤1000000) (a:Nat) (ha:a < s.size) (h1:bC s[a]=true) (w:World) :
  Calls prog 111 #[.string s,.int .i64 a] w fun e w'=>e=.returned (ut a (bf (s.data.toList.drop a)))∧Below w.heap.size w w':=by
 obtain ⟨q1,q2,q3,q4⟩:=Bz h1
 have hd0:dW s[a]=false:=by
  unfold bg at q4
  simp only [Bool.or_eq_false_iff] at q4
  exact q4.1.1.2
 obtain ⟨T,EN⟩:∃ T:Nat,T=a+az (aU bC) () (s.data.toList.drop a):=⟨_,rfl⟩
 have hT2:bf (s.data.toList.drop a)=(kdN s a T,T - a):=by rw [NM s a ha h1,← EN,Prod.mk.injEq]; exact ⟨rfl,by omega⟩
 have H0:=hid (show T=a+1+az (aU bC) () (s.data.toList.drop (a+1)) by rw [EN,jE bC s a ha h1]; omega)
 have HT:=hid hT2
 have HB:=fun W=>ik s[a] W
 rw [q1] at HB
 have HR:=fun W=>iV s[a] W
 rw [q4] at HR
 have HS:=fun W=>kT s[a] W
 rw [h1] at HS
 have Gz:=hid (fun E (h:a < E) (h2:E≤s.size)=>Ah s a E h h2 hd0)
 clear h1 EN hT2 q1 q4 hd0
 go_enter func111,ntmps111
 go_wp2_with fail
 refine (HB _).mono ?_
 rintro e w1 ⟨rfl,rfl⟩
 go_wp2_with fail
 refine (HR _).mono ?_
 rintro e w1 ⟨rfl,rfl⟩
 go_wp2_with fail
 refine (HS _).mono ?_
 rintro e w1 ⟨rfl,rfl⟩
 go_wp2_with fail
 have HN:=hid (qP w 3 a (a+1))
 rw [show ((a+1:Nat):Int)=(a:Int)+1 by omega] at HN
 generalize ((w.alloc (.cells #[.int .i64 0,.int .i64 0,.int .i64 0] 119)).alloc (.cells #[.int .i64 3,.int .i64 (a:Int),.int .i64 ((a:Int)+1)] 119))=W0 at *
 clear HB HR HS
 go_loopg [] (s.size+1) (fun gk wr=>∃ E:Nat,E+gk=s.size+1+(a+1)∧a < E∧E≤s.size∧Hid (T=E+az (aU bC) () (s.data.toList.drop E))∧Hid (Nx w 3 a E wr))
 case atStart=>exact ⟨a+1,by omega,by omega,by omega,H0,HN⟩
 case round =>
  obtain ⟨E,hg,Q7,hE,hq,hn⟩:=hrel
  have c0:=hn.out.own.c0
  have c1:=hn.out.own.c1
  have c2:=hn.out.own.c2
  have f0:=hn.out.own.f 0
  have f2:=hn.out.own.f 2
  have r0:=hn.out.res.c0
  have r1:=hn.out.res.c1
  have r2:=hn.out.res.c2
  have g0:=hn.out.res.f 0
  have g1:=hn.out.res.f 1
  have g2:=hn.out.res.f 2
  clear H0 HN
  by_cases hlt:E < s.size
  ·have HC:=fun W=>kT s[E] W
   cases h1:bC s[E]
   ·rw [h1] at HC
    have HE:=hid (hq.out.trans (by rw [sU bC s E hlt h1]))
    have qJ:Hid (bf (s.data.toList.drop a)=(kdN s a E,E - a)):=hid (by rw [HT.out,HE.out]; rfl)
    clear hq h1
    go_wp2_with fail
    refine (HC _).mono ?_
    rintro e w1 ⟨rfl,rfl⟩
    have hsl:=lD s a E (by omega) (by omega)
    have qj:=fun W=>iO (s.extract a E) W (by simp; omega)
    have HD0:=hid (Gz.out E Q7 hE)
    obtain ⟨kk,hkk⟩:∃ kk,kk=bJ (s.extract a E):=⟨_,rfl⟩
    rw [← hkk] at qj
    have HKK:=hid hkk
    clear hkk
    generalize hex:s.extract a E=ex at *
    have HEX:=hid hex
    clear hex
    go_wp2_with fail
    refine (qj _).mono ?_
    rintro e w5 ⟨rfl,hb5⟩
    have dN:=hid (hn.out.step hb5)
    clear hb5 c0 c1 c2 f0 f2 r0 r1 r2 g0 g1 g2 hn
    have c0:=dN.out.own.c0
    have c1:=dN.out.own.c1
    have c2:=dN.out.own.c2
    have f0:=dN.out.own.f 0
    have f2:=dN.out.own.f 2
    have r0:=dN.out.res.c0
    have r1:=dN.out.res.c1
    have r2:=dN.out.res.c2
    have g0:=dN.out.res.f 0
    have g1:=dN.out.res.f 1
    have g2:=dN.out.res.f 2
    by_cases hkz:kk=0
    ·subst hkz
     go_wp2_with fail
     have HR2:=dN.out.res.set 3 (a:Int) (E:Int)
     have HB2:=hid (((dN.out.below.setCell (p:=⟨w.heap.size,0,none⟩) (Nat.le_refl _) (.int .i64 3)).setCell (p:=⟨w.heap.size,1,none⟩) (Nat.le_refl _) (.int .i64 (a:Int))).setCell (p:=⟨w.heap.size,2,none⟩) (Nat.le_refl _) (.int .i64 (E:Int)))
     clear c0 c1 c2 f0 f2 r0 r1 r2 g0 g1 g2 dN
     generalize (((w5.setCell ⟨w.heap.size,0,none⟩ (.int .i64 3)).setCell ⟨w.heap.size,1,none⟩ (.int .i64 (a:Int))).setCell ⟨w.heap.size,2,none⟩ (.int .i64 (E:Int)))=W2 at *
     have c0:=HR2.c0
     have c1:=HR2.c1
     have c2:=HR2.c2
     try simp only [Exit.inBlock,Exit.then]
     refine bodyPost_ret (by simp [results,results111,go_sem,c0,c1,c2,Result.andThen]; try rfl) rfl ?_
     exact ⟨dP (E:=E) (by rw [qJ.out,lh HD0.out (by rw [HEX.out,← HKK.out])]) (by omega),HB2.out⟩
    ·have hne:(kk != 0)=true:=by simpa using hkz
     have dG:=hid (dN.out.setK kk)
     go_wp2_with fail
     generalize w5.setCell ⟨w.heap.size+1,0,none⟩ (.int .i64 kk)=w6 at *
     clear c0 c1 c2 f0 f2 r0 r1 r2 g0 g1 g2 dN
     have c0:=dG.out.own.c0
     have c1:=dG.out.own.c1
     have c2:=dG.out.own.c2
     have f0:=dG.out.own.f 0
     have f2:=dG.out.own.f 2
     have r0:=dG.out.res.c0
     have r1:=dG.out.res.c1
     have r2:=dG.out.res.c2
     have g0:=dG.out.res.f 0
     have g1:=dG.out.res.f 1
     have g2:=dG.out.res.f 2
     have HR2:=dG.out.res.set kk (a:Int) (E:Int)
     have HB2:=hid (((dG.out.below.setCell (p:=⟨w.heap.size,0,none⟩) (Nat.le_refl _) (.int .i64 kk)).setCell (p:=⟨w.heap.size,1,none⟩) (Nat.le_refl _) (.int .i64 (a:Int))).setCell (p:=⟨w.heap.size,2,none⟩) (Nat.le_refl _) (.int .i64 (E:Int)))
     clear c0 c1 c2 f0 f2 r0 r1 r2 g0 g1 g2 dG
     generalize (((w6.setCell ⟨w.heap.size,0,none⟩ (.int .i64 kk)).setCell ⟨w.heap.size,1,none⟩ (.int .i64 (a:Int))).setCell ⟨w.heap.size,2,none⟩ (.int .i64 (E:Int)))=W2 at *
     have c0:=HR2.c0
     have c1:=HR2.c1
     have c2:=HR2.c2
     try simp only [Exit.inBlock,Exit.then]
     refine bodyPost_ret (by simp [results,results111,go_sem,c0,c1,c2,Result.andThen]; try rfl) rfl ?_
     exact ⟨dP (E:=E) (by rw [qJ.out,kX HD0.out (by rw [HEX.out,← HKK.out]; exact hkz),HEX.out,← HKK.out]) (by omega),HB2.out⟩
   ·rw [h1] at HC
    have HE:=hid (hq.out.trans (show E+_=E+1+az (aU bC) () (s.data.toList.drop (E+1)) by rw [jE bC s E hlt h1]; omega))
    have HX:=hid (hn.out.setE (E+1))
    have HI:=hid (show ((E:Int)+1)=((E+1:Nat):Int) by omega)
    clear hq h1
    go_wp2_with fail
    refine (HC _).mono ?_
    rintro e w1 ⟨rfl,rfl⟩
    go_wp2_with fail
    go_roundg (gk - 1)
    case rel=>exact ⟨E+1,by omega,by omega,by omega,HE,by rw [HI.out]; exact HX⟩
    case measure=>omega
  ·have HE:=hid (hq.out.trans (by rw [pM bC s E (by omega)]))
   have hge:¬ (E:Int) < (s.size:Int):=by omega
   have qJ:Hid (bf (s.data.toList.drop a)=(kdN s a E,E - a)):=hid (by rw [HT.out,HE.out]; rfl)
   clear hq
   have hsl:=lD s a E (by omega) (by omega)
   have qj:=fun W=>iO (s.extract a E) W (by simp; omega)
   have HD0:=hid (Gz.out E Q7 hE)
   obtain ⟨kk,hkk⟩:∃ kk,kk=bJ (s.extract a E):=⟨_,rfl⟩
   rw [← hkk] at qj
   have HKK:=hid hkk
   clear hkk
   generalize hex:s.extract a E=ex at *
   have HEX:=hid hex
   clear hex
   go_wp2_with fail
   refine (qj _).mono ?_
   rintro e w5 ⟨rfl,hb5⟩
   have dN:=hid (hn.out.step hb5)
   clear hb5 c0 c1 c2 f0 f2 r0 r1 r2 g0 g1 g2 hn
   have c0:=dN.out.own.c0
   have c1:=dN.out.own.c1
   have c2:=dN.out.own.c2
   have f0:=dN.out.own.f 0
   have f2:=dN.out.own.f 2
   have r0:=dN.out.res.c0
   have r1:=dN.out.res.c1
   have r2:=dN.out.res.c2
   have g0:=dN.out.res.f 0
   have g1:=dN.out.res.f 1
   have g2:=dN.out.res.f 2
   by_cases hkz:kk=0
   ·subst hkz
    go_wp2_with fail
    have HR2:=dN.out.res.set 3 (a:Int) (E:Int)
    have HB2:=hid (((dN.out.below.setCell (p:=⟨w.heap.size,0,none⟩) (Nat.le_refl _) (.int .i64 3)).setCell (p:=⟨w.heap.size,1,none⟩) (Nat.le_refl _) (.int .i64 (a:Int))).setCell (p:=⟨w.heap.size,2,none⟩) (Nat.le_refl _) (.int .i64 (E:Int)))
    clear c0 c1 c2 f0 f2 r0 r1 r2 g0 g1 g2 dN
    generalize (((w5.setCell ⟨w.heap.size,0,none⟩ (.int .i64 3)).setCell ⟨w.heap.size,1,none⟩ (.int .i64 (a:Int))).setCell ⟨w.heap.size,2,none⟩ (.int .i64 (E:Int)))=W2 at *
    have c0:=HR2.c0
    have c1:=HR2.c1
    have c2:=HR2.c2
    try simp only [Exit.inBlock,Exit.then]
    refine bodyPost_ret (by simp [results,results111,go_sem,c0,c1,c2,Result.andThen]; try rfl) rfl ?_
    exact ⟨dP (E:=E) (by rw [qJ.out,lh HD0.out (by rw [HEX.out,← HKK.out])]) (by omega),HB2.out⟩
   ·have hne:(kk != 0)=true:=by simpa using hkz
    have dG:=hid (dN.out.setK kk)
    go_wp2_with fail
    generalize w5.setCell ⟨w.heap.size+1,0,none⟩ (.int .i64 kk)=w6 at *
    clear c0 c1 c2 f0 f2 r0 r1 r2 g0 g1 g2 dN
    have c0:=dG.out.own.c0
    have c1:=dG.out.own.c1
    have c2:=dG.out.own.c2
    have f0:=dG.out.own.f 0
    have f2:=dG.out.own.f 2
    have r0:=dG.out.res.c0
    have r1:=dG.out.res.c1
    have r2:=dG.out.res.c2
    have g0:=dG.out.res.f 0
    have g1:=dG.out.res.f 1
    have g2:=dG.out.res.f 2
    have HR2:=dG.out.res.set kk (a:Int) (E:Int)
    have HB2:=hid (((dG.out.below.setCell (p:=⟨w.heap.size,0,none⟩) (Nat.le_refl _) (.int .i64 kk)).setCell (p:=⟨w.heap.size,1,none⟩) (Nat.le_refl _) (.int .i64 (a:Int))).setCell (p:=⟨w.heap.size,2,none⟩) (Nat.le_refl _) (.int .i64 (E:Int)))
    clear c0 c1 c2 f0 f2 r0 r1 r2 g0 g1 g2 dG
    generalize (((w6.setCell ⟨w.heap.size,0,none⟩ (.int .i64 kk)).setCell ⟨w.heap.size,1,none⟩ (.int .i64 (a:Int))).setCell ⟨w.heap.size,2,none⟩ (.int .i64 (E:Int)))=W2 at *
    have c0:=HR2.c0
    have c1:=HR2.c1
    have c2:=HR2.c2
    try simp only [Exit.inBlock,Exit.then]
    refine bodyPost_ret (by simp [results,results111,go_sem,c0,c1,c2,Result.andThen]; try rfl) rfl ?_
    exact ⟨dP (E:=E) (by rw [qJ.out,kX HD0.out (by rw [HEX.out,← HKK.out]; exact hkz),HEX.out,← HKK.out]) (by omega),HB2.out⟩
set_option maxHeartbeats 4000000 in
theorem ET (s:ByteArray) (hs:s.size≤1000000) (a:Nat) (ha:a < s.size) (h1:bg s[a]=true) (w:World) :
  Calls prog 111 #[.string s,.int .i64 a] w fun e w'=>e=.returned (ut a (bf (s.data.toList.drop a)))∧Below w.heap.size w w':=by
 obtain ⟨q1,q2,q3⟩:=Ed h1
 obtain ⟨T,EN⟩:∃ T:Nat,T=a+az (aU bg) () (s.data.toList.drop a):=⟨_,rfl⟩
 have hT2:bf (s.data.toList.drop a)=(kdN s a T,T - a):=by rw [NW s a ha h1,← EN,Prod.mk.injEq]; exact ⟨rfl,by omega⟩
 have H0:=hid (show T=a+1+az (aU bg) () (s.data.toList.drop (a+1)) by rw [EN,jE bg s a ha h1]; omega)
 have HT:=hid hT2
 have HB:=fun W=>ik s[a] W
 rw [q1] at HB
 have HR:=fun W=>iV s[a] W
 rw [h1] at HR
 have HD:=fun W=>xZ s[a] W
 rw [← Qz s a ha] at HD
 clear h1 EN hT2 q1
 go_enter func111,ntmps111
 go_wp2_with fail
 refine (HB _).mono ?_
 rintro e w1 ⟨rfl,rfl⟩
 go_wp2_with fail
 refine (HR _).mono ?_
 rintro e w1 ⟨rfl,rfl⟩
 go_wp2_with fail
 refine (HD _).mono ?_
 rintro e w1 ⟨rfl,rfl⟩
 go_wp2_with fail
 have HN:=hid (qP w 3 a (a+1))
 rw [show ((a+1:Nat):Int)=(a:Int)+1 by omega] at HN
 generalize ((w.alloc (.cells #[.int .i64 0,.int .i64 0,.int .i64 0] 119)).alloc (.cells #[.int .i64 3,.int .i64 (a:Int),.int .i64 ((a:Int)+1)] 119))=W0 at *
 clear HB HR HD
 go_loopg [9] (s.size+1) (fun gk v9 wr=>∃ E:Nat,E+gk=s.size+1+(a+1)∧a < E∧E≤s.size∧v9=.bool (dgB s a E)∧Hid (T=E+az (aU bg) () (s.data.toList.drop E))∧Hid (Nx w 3 a E wr))
 case atStart=>exact ⟨a+1,by omega,by omega,by omega,rfl,H0,HN⟩
 case round =>
  obtain ⟨E,hg,Q7,hE,rfl,hq,hn⟩:=hrel
  have c0:=hn.out.own.c0
  have c1:=hn.out.own.c1
  have c2:=hn.out.own.c2
  have f0:=hn.out.own.f 0
  have f2:=hn.out.own.f 2
  have r0:=hn.out.res.c0
  have r1:=hn.out.res.c1
  have r2:=hn.out.res.c2
  have g0:=hn.out.res.f 0
  have g1:=hn.out.res.f 1
  have g2:=hn.out.res.f 2
  clear H0 HN
  by_cases hlt:E < s.size
  ·have HC:=fun W=>iV s[E] W
   have HM:=MW s a E hlt (by omega)
   cases h1:bg s[E]
   ·rw [h1] at HC
    have HE:=hid (hq.out.trans (by rw [sU bg s E hlt h1]))
    have qJ:Hid (bf (s.data.toList.drop a)=(kdN s a E,E - a)):=hid (by rw [HT.out,HE.out]; rfl)
    clear hq h1 HM
    cases hbb:dgB s a E
    ·have Ep:=hid hbb
     clear hbb
     go_wp2_with fail
     refine (HC _).mono ?_
     rintro e w1 ⟨rfl,rfl⟩
     have hsl:=lD s a E (by omega) (by omega)
     have qj:=fun W=>iO (s.extract a E) W (by simp; omega)
     have HD0:=Ep
     obtain ⟨kk,hkk⟩:∃ kk,kk=bJ (s.extract a E):=⟨_,rfl⟩
     rw [← hkk] at qj
     have HKK:=hid hkk
     clear hkk
     generalize hex:s.extract a E=ex at *
     have HEX:=hid hex
     clear hex
     go_wp2_with fail
     refine (qj _).mono ?_
     rintro e w5 ⟨rfl,hb5⟩
     have dN:=hid (hn.out.step hb5)
     clear hb5 c0 c1 c2 f0 f2 r0 r1 r2 g0 g1 g2 hn
     have c0:=dN.out.own.c0
     have c1:=dN.out.own.c1
     have c2:=dN.out.own.c2
     have f0:=dN.out.own.f 0
     have f2:=dN.out.own.f 2
     have r0:=dN.out.res.c0
     have r1:=dN.out.res.c1
     have r2:=dN.out.res.c2
     have g0:=dN.out.res.f 0
     have g1:=dN.out.res.f 1
     have g2:=dN.out.res.f 2
     by_cases hkz:kk=0
     ·subst hkz
      go_wp2_with fail
      have HR2:=dN.out.res.set 3 (a:Int) (E:Int)
      have HB2:=hid (((dN.out.below.setCell (p:=⟨w.heap.size,0,none⟩) (Nat.le_refl _) (.int .i64 3)).setCell (p:=⟨w.heap.size,1,none⟩) (Nat.le_refl _) (.int .i64 (a:Int))).setCell (p:=⟨w.heap.size,2,none⟩) (Nat.le_refl _) (.int .i64 (E:Int)))
      clear c0 c1 c2 f0 f2 r0 r1 r2 g0 g1 g2 dN
      generalize (((w5.setCell ⟨w.heap.size,0,none⟩ (.int .i64 3)).setCell ⟨w.heap.size,1,none⟩ (.int .i64 (a:Int))).setCell ⟨w.heap.size,2,none⟩ (.int .i64 (E:Int)))=W2 at *
      have c0:=HR2.c0
      have c1:=HR2.c1
      have c2:=HR2.c2
      try simp only [Exit.inBlock,Exit.then]
      refine bodyPost_ret (by simp [results,results111,go_sem,c0,c1,c2,Result.andThen]; try rfl) rfl ?_
      exact ⟨dP (E:=E) (by rw [qJ.out,lh HD0.out (by rw [HEX.out,← HKK.out])]) (by omega),HB2.out⟩
     ·have hne:(kk != 0)=true:=by simpa using hkz
      have dG:=hid (dN.out.setK kk)
      go_wp2_with fail
      generalize w5.setCell ⟨w.heap.size+1,0,none⟩ (.int .i64 kk)=w6 at *
      clear c0 c1 c2 f0 f2 r0 r1 r2 g0 g1 g2 dN
      have c0:=dG.out.own.c0
      have c1:=dG.out.own.c1
      have c2:=dG.out.own.c2
      have f0:=dG.out.own.f 0
      have f2:=dG.out.own.f 2
      have r0:=dG.out.res.c0
      have r1:=dG.out.res.c1
      have r2:=dG.out.res.c2
      have g0:=dG.out.res.f 0
      have g1:=dG.out.res.f 1
      have g2:=dG.out.res.f 2
      have HR2:=dG.out.res.set kk (a:Int) (E:Int)
      have HB2:=hid (((dG.out.below.setCell (p:=⟨w.heap.size,0,none⟩) (Nat.le_refl _) (.int .i64 kk)).setCell (p:=⟨w.heap.size,1,none⟩) (Nat.le_refl _) (.int .i64 (a:Int))).setCell (p:=⟨w.heap.size,2,none⟩) (Nat.le_refl _) (.int .i64 (E:Int)))
      clear c0 c1 c2 f0 f2 r0 r1 r2 g0 g1 g2 dG
      generalize (((w6.setCell ⟨w.heap.size,0,none⟩ (.int .i64 kk)).setCell ⟨w.heap.size,1,none⟩ (.int .i64 (a:Int))).setCell ⟨w.heap.size,2,none⟩ (.int .i64 (E:Int)))=W2 at *
      have c0:=HR2.c0
      have c1:=HR2.c1
      have c2:=HR2.c2
      try simp only [Exit.inBlock,Exit.then]
      refine bodyPost_ret (by simp [results,results111,go_sem,c0,c1,c2,Result.andThen]; try rfl) rfl ?_
      exact ⟨dP (E:=E) (by rw [qJ.out,kX HD0.out (by rw [HEX.out,← HKK.out]; exact hkz),HEX.out,← HKK.out]) (by omega),HB2.out⟩
    ·have Ep:=hid hbb
     clear hbb
     go_wp2_with fail
     refine (HC _).mono ?_
     rintro e w1 ⟨rfl,rfl⟩
     have dG:=hid (hn.out.setK 4)
     go_wp2_with fail
     generalize wr.setCell ⟨w.heap.size+1,0,none⟩ (.int .i64 4)=w6 at *
     clear c0 c1 c2 f0 f2 r0 r1 r2 g0 g1 g2 hn
     have c0:=dG.out.own.c0
     have c1:=dG.out.own.c1
     have c2:=dG.out.own.c2
     have f0:=dG.out.own.f 0
     have f2:=dG.out.own.f 2
     have r0:=dG.out.res.c0
     have r1:=dG.out.res.c1
     have r2:=dG.out.res.c2
     have g0:=dG.out.res.f 0
     have g1:=dG.out.res.f 1
     have g2:=dG.out.res.f 2
     have HR2:=dG.out.res.set 4 (a:Int) (E:Int)
     have HB2:=hid (((dG.out.below.setCell (p:=⟨w.heap.size,0,none⟩) (Nat.le_refl _) (.int .i64 4)).setCell (p:=⟨w.heap.size,1,none⟩) (Nat.le_refl _) (.int .i64 (a:Int))).setCell (p:=⟨w.heap.size,2,none⟩) (Nat.le_refl _) (.int .i64 (E:Int)))
     clear c0 c1 c2 f0 f2 r0 r1 r2 g0 g1 g2 dG
     generalize (((w6.setCell ⟨w.heap.size,0,none⟩ (.int .i64 4)).setCell ⟨w.heap.size,1,none⟩ (.int .i64 (a:Int))).setCell ⟨w.heap.size,2,none⟩ (.int .i64 (E:Int)))=W2 at *
     have c0:=HR2.c0
     have c1:=HR2.c1
     have c2:=HR2.c2
     try simp only [Exit.inBlock,Exit.then]
     refine bodyPost_ret (by simp [results,results111,go_sem,c0,c1,c2,Result.andThen]; try rfl) rfl ?_
     exact ⟨dP (E:=E) (by rw [qJ.out,GU Ep.out]) (by omega),HB2.out⟩
   ·rw [h1] at HC
    have HE:=hid (hq.out.trans (show E+_=E+1+az (aU bg) () (s.data.toList.drop (E+1)) by rw [jE bg s E hlt h1]; omega))
    have HX:=hid (hn.out.setE (E+1))
    have HI:=hid (show ((E:Int)+1)=((E+1:Nat):Int) by omega)
    clear hq h1
    cases hbb:dgB s a E
    ·rw [hbb,Bool.false_and] at HM
     have Yv:=hid HM
     clear hbb HM
     go_wp2_with fail
     refine (HC _).mono ?_
     rintro e w1 ⟨rfl,rfl⟩
     go_wp2_with fail
     go_roundg (gk - 1)
     case rel=>exact ⟨E+1,by omega,by omega,by omega,by rw [Yv.out],HE,by rw [HI.out]; exact HX⟩
     case measure=>omega
    ·rw [hbb,Bool.true_and] at HM
     have Yv:=hid HM
     have Ui:=fun W=>xZ s[E] W
     clear hbb HM
     go_wp2_with fail
     refine (HC _).mono ?_
     rintro e w1 ⟨rfl,rfl⟩
     go_wp2_with fail
     refine (Ui _).mono ?_
     rintro e w1 ⟨rfl,rfl⟩
     go_wp2_with fail
     go_roundg (gk - 1)
     case rel=>exact ⟨E+1,by omega,by omega,by omega,by rw [Yv.out],HE,by rw [HI.out]; exact HX⟩
     case measure=>omega
  ·have HE:=hid (hq.out.trans (by rw [pM bg s E (by omega)]))
   have hge:¬ (E:Int) < (s.size:Int):=by omega
   have qJ:Hid (bf (s.data.toList.drop a)=(kdN s a E,E - a)):=hid (by rw [HT.out,HE.out]; rfl)
   clear hq
   cases hbb:dgB s a E
   ·have Ep:=hid hbb
    clear hbb
    have hsl:=lD s a E (by omega) (by omega)
    have qj:=fun W=>iO (s.extract a E) W (by simp; omega)
    have HD0:=Ep
    obtain ⟨kk,hkk⟩:∃ kk,kk=bJ (s.extract a E):=⟨_,rfl⟩
    rw [← hkk] at qj
    have HKK:=hid hkk
    clear hkk
    generalize hex:s.extract a E=ex at *
    have HEX:=hid hex
    clear hex
    go_wp2_with fail
    refine (qj _).mono ?_
    rintro e w5 ⟨rfl,hb5⟩
    have dN:=hid (hn.out.step hb5)
    clear hb5 c0 c1 c2 f0 f2 r0 r1 r2 g0 g1 g2 hn
    have c0:=dN.out.own.c0
    have c1:=dN.out.own.c1
    have c2:=dN.out.own.c2
    have f0:=dN.out.own.f 0
    have f2:=dN.out.own.f 2
    have r0:=dN.out.res.c0
    have r1:=dN.out.res.c1
    have r2:=dN.out.res.c2
    have g0:=dN.out.res.f 0
    have g1:=dN.out.res.f 1
    have g2:=dN.out.res.f 2
    by_cases hkz:kk=0
    ·subst hkz
     go_wp2_with fail
     have HR2:=dN.out.res.set 3 (a:Int) (E:Int)
     have HB2:=hid (((dN.out.below.setCell (p:=⟨w.heap.size,0,none⟩) (Nat.le_refl _) (.int .i64 3)).setCell (p:=⟨w.heap.size,1,none⟩) (Nat.le_refl _) (.int .i64 (a:Int))).setCell (p:=⟨w.heap.size,2,none⟩) (Nat.le_refl _) (.int .i64 (E:Int)))
     clear c0 c1 c2 f0 f2 r0 r1 r2 g0 g1 g2 dN
     generalize (((w5.setCell ⟨w.heap.size,0,none⟩ (.int .i64 3)).setCell ⟨w.heap.size,1,none⟩ (.int .i64 (a:Int))).setCell ⟨w.heap.size,2,none⟩ (.int .i64 (E:Int)))=W2 at *
     have c0:=HR2.c0
     have c1:=HR2.c1
     have c2:=HR2.c2
     try simp only [Exit.inBlock,Exit.then]
     refine bodyPost_ret (by simp [results,results111,go_sem,c0,c1,c2,Result.andThen]; try rfl) rfl ?_
     exact ⟨dP (E:=E) (by rw [qJ.out,lh HD0.out (by rw [HEX.out,← HKK.out])]) (by omega),HB2.out⟩
    ·have hne:(kk != 0)=true:=by simpa using hkz
     have dG:=hid (dN.out.setK kk)
     go_wp2_with fail
     generalize w5.setCell ⟨w.heap.size+1,0,none⟩ (.int .i64 kk)=w6 at *
     clear c0 c1 c2 f0 f2 r0 r1 r2 g0 g1 g2 dN
     have c0:=dG.out.own.c0
     have c1:=dG.out.own.c1
     have c2:=dG.out.own.c2
     have f0:=dG.out.own.f 0
     have f2:=dG.out.own.f 2
     have r0:=dG.out.res.c0
     have r1:=dG.out.res.c1
     have r2:=dG.out.res.c2
     have g0:=dG.out.res.f 0
     have g1:=dG.out.res.f 1
     have g2:=dG.out.res.f 2
     have HR2:=dG.out.res.set kk (a:Int) (E:Int)
     have HB2:=hid (((dG.out.below.setCell (p:=⟨w.heap.size,0,none⟩) (Nat.le_refl _) (.int .i64 kk)).setCell (p:=⟨w.heap.size,1,none⟩) (Nat.le_refl _) (.int .i64 (a:Int))).setCell (p:=⟨w.heap.size,2,none⟩) (Nat.le_refl _) (.int .i64 (E:Int)))
     clear c0 c1 c2 f0 f2 r0 r1 r2 g0 g1 g2 dG
     generalize (((w6.setCell ⟨w.heap.size,0,none⟩ (.int .i64 kk)).setCell ⟨w.heap.size,1,none⟩ (.int .i64 (a:Int))).setCell ⟨w.heap.size,2,none⟩ (.int .i64 (E:Int)))=W2 at *
     have c0:=HR2.c0
     have c1:=HR2.c1
     have c2:=HR2.c2
     try simp only [Exit.inBlock,Exit.then]
     refine bodyPost_ret (by simp [results,results111,go_sem,c0,c1,c2,Result.andThen]; try rfl) rfl ?_
     exact ⟨dP (E:=E) (by rw [qJ.out,kX HD0.out (by rw [HEX.out,← HKK.out]; exact hkz),HEX.out,← HKK.out]) (by omega),HB2.out⟩
   ·have Ep:=hid hbb
    clear hbb
    go_wp2_with fail
    have dG:=hid (hn.out.setK 4)
    go_wp2_with fail
    generalize wr.setCell ⟨w.heap.size+1,0,none⟩ (.int .i64 4)=w6 at *
    clear c0 c1 c2 f0 f2 r0 r1 r2 g0 g1 g2 hn
    have c0:=dG.out.own.c0
    have c1:=dG.out.own.c1
    have c2:=dG.out.own.c2
    have f0:=dG.out.own.f 0
    have f2:=dG.out.own.f 2
    have r0:=dG.out.res.c0
    have r1:=dG.out.res.c1
    have r2:=dG.out.res.c2
    have g0:=dG.out.res.f 0
    have g1:=dG.out.res.f 1
    have g2:=dG.out.res.f 2
    have HR2:=dG.out.res.set 4 (a:Int) (E:Int)
    have HB2:=hid (((dG.out.below.setCell (p:=⟨w.heap.size,0,none⟩) (Nat.le_refl _) (.int .i64 4)).setCell (p:=⟨w.heap.size,1,none⟩) (Nat.le_refl _) (.int .i64 (a:Int))).setCell (p:=⟨w.heap.size,2,none⟩) (Nat.le_refl _) (.int .i64 (E:Int)))
    clear c0 c1 c2 f0 f2 r0 r1 r2 g0 g1 g2 dG
    generalize (((w6.setCell ⟨w.heap.size,0,none⟩ (.int .i64 4)).setCell ⟨w.heap.size,1,none⟩ (.int .i64 (a:Int))).setCell ⟨w.heap.size,2,none⟩ (.int .i64 (E:Int)))=W2 at *
    have c0:=HR2.c0
    have c1:=HR2.c1
    have c2:=HR2.c2
    try simp only [Exit.inBlock,Exit.then]
    refine bodyPost_ret (by simp [results,results111,go_sem,c0,c1,c2,Result.andThen]; try rfl) rfl ?_
    exact ⟨dP (E:=E) (by rw [qJ.out,GU Ep.out]) (by omega),HB2.out⟩
set_option maxHeartbeats 4000000 in
theorem Bq (s:ByteArray) (hs:s.size≤1000000) (a:Nat) (ha:a < s.size) (h1:bD s[a]=false) (h2:((s[a].toNat:Int) == 34)=false) (h4:bg s[a]=false) (h5:bC s[a]=false) (h6:((s[a].toNat:Int) == 40)=false) (w:World) :
  Calls prog 111 #[.string s,.int .i64 a] w fun e w'=>e=.returned (ut a (bf (s.data.toList.drop a)))∧Below w.heap.size w w':=by
 have hd0:dW s[a]=false:=by
  have q4:=h4
  unfold bg at q4
  simp only [Bool.or_eq_false_iff] at q4
  exact q4.1.1.2
 have hT:=xA s a ha h1 h2 (by rw [show eqB s[a] 40=false from h6]; rfl) h4 h5
 have Gz:=hid (Ah s a (a+1) (by omega) (by omega) hd0)
 have HB:=fun W=>ik s[a] W
 rw [h1] at HB
 have HR:=fun W=>iV s[a] W
 rw [h4] at HR
 have HS:=fun W=>kT s[a] W
 rw [h5] at HS
 have HT:=hid hT
 obtain ⟨E,hE⟩:∃ E:Nat,E=a+1:=⟨_,rfl⟩
 rw [← hE] at Gz
 have hEs:E≤s.size:=by omega
 have Q7:a < E:=by omega
 have qJ:Hid (bf (s.data.toList.drop a)=(kdN s a E,E - a)):=hid (by rw [HT.out,hE]; simp)
 have HN:=hid (qP w 3 a E)
 have hEi:(a:Int)+1=(E:Int):=by omega
 have ZX:=hid hE
 clear h1 h4 h5 hT hd0 hE HT
 have hsl:=lD s a E (by omega) hEs
 have qj:=fun W=>iO (s.extract a E) W (by simp; omega)
 obtain ⟨kk,hkk⟩:∃ kk,kk=bJ (s.extract a E):=⟨_,rfl⟩
 rw [← hkk] at qj
 have HKK:=hid hkk
 clear hkk
 generalize hex:s.extract a E=ex at *
 have HEX:=hid hex
 clear hex
 go_enter func111,ntmps111
 go_wp2_with fail
 refine (HB _).mono ?_
 rintro e w1 ⟨rfl,rfl⟩
 go_wp2_with fail
 refine (HR _).mono ?_
 rintro e w1 ⟨rfl,rfl⟩
 go_wp2_with fail
 refine (HS _).mono ?_
 rintro e w1 ⟨rfl,rfl⟩
 go_wp2_with fail
 refine (qj _).mono ?_
 rintro e w5 ⟨rfl,hb5⟩
 generalize ((w.alloc (.cells #[.int .i64 0,.int .i64 0,.int .i64 0] 119)).alloc (.cells #[.int .i64 3,.int .i64 (a:Int),.int .i64 (E:Int)] 119))=W0 at *
 have dN:=hid (HN.out.step hb5)
 clear hb5 HN
 have c0:=dN.out.own.c0
 have c1:=dN.out.own.c1
 have c2:=dN.out.own.c2
 have f0:=dN.out.own.f 0
 have f2:=dN.out.own.f 2
 have r0:=dN.out.res.c0
 have r1:=dN.out.res.c1
 have r2:=dN.out.res.c2
 have g0:=dN.out.res.f 0
 have g1:=dN.out.res.f 1
 have g2:=dN.out.res.f 2
 by_cases hkz:kk=0
 ·subst hkz
  go_wp2_with fail
  have HR2:=dN.out.res.set 3 (a:Int) (E:Int)
  have HB2:=hid (((dN.out.below.setCell (p:=⟨w.heap.size,0,none⟩) (Nat.le_refl _) (.int .i64 3)).setCell (p:=⟨w.heap.size,1,none⟩) (Nat.le_refl _) (.int .i64 (a:Int))).setCell (p:=⟨w.heap.size,2,none⟩) (Nat.le_refl _) (.int .i64 (E:Int)))
  clear c0 c1 c2 f0 f2 r0 r1 r2 g0 g1 g2 dN
  generalize (((w5.setCell ⟨w.heap.size,0,none⟩ (.int .i64 3)).setCell ⟨w.heap.size,1,none⟩ (.int .i64 (a:Int))).setCell ⟨w.heap.size,2,none⟩ (.int .i64 (E:Int)))=W2 at *
  have c0:=HR2.c0
  have c1:=HR2.c1
  have c2:=HR2.c2
  try simp only [Exit.inBlock,Exit.then]
  refine bodyPost_ret (by simp [results,results111,go_sem,c0,c1,c2,Result.andThen]; try rfl) rfl ?_
  exact ⟨dP (E:=E) (by rw [qJ.out,lh Gz.out (by rw [HEX.out,← HKK.out])]) (by omega),HB2.out⟩
 ·have hne:(kk != 0)=true:=by simpa using hkz
  have dG:=hid (dN.out.setK kk)
  go_wp2_with fail
  generalize w5.setCell ⟨w.heap.size+1,0,none⟩ (.int .i64 kk)=w6 at *
  clear c0 c1 c2 f0 f2 r0 r1 r2 g0 g1 g2 dN
  have c0:=dG.out.own.c0
  have c1:=dG.out.own.c1
  have c2:=dG.out.own.c2
  have f0:=dG.out.own.f 0
  have f2:=dG.out.own.f 2
  have r0:=dG.out.res.c0
  have r1:=dG.out.res.c1
  have r2:=dG.out.res.c2
  have g0:=dG.out.res.f 0
  have g1:=dG.out.res.f 1
  have g2:=dG.out.res.f 2
  have HR2:=dG.out.res.set kk (a:Int) (E:Int)
  have HB2:=hid (((dG.out.below.setCell (p:=⟨w.heap.size,0,none⟩) (Nat.le_refl _) (.int .i64 kk)).setCell (p:=⟨w.heap.size,1,none⟩) (Nat.le_refl _) (.int .i64 (a:Int))).setCell (p:=⟨w.heap.size,2,none⟩) (Nat.le_refl _) (.int .i64 (E:Int)))
  clear c0 c1 c2 f0 f2 r0 r1 r2 g0 g1 g2 dG
  generalize (((w6.setCell ⟨w.heap.size,0,none⟩ (.int .i64 kk)).setCell ⟨w.heap.size,1,none⟩ (.int .i64 (a:Int))).setCell ⟨w.heap.size,2,none⟩ (.int .i64 (E:Int)))=W2 at *
  have c0:=HR2.c0
  have c1:=HR2.c1
  have c2:=HR2.c2
  try simp only [Exit.inBlock,Exit.then]
  refine bodyPost_ret (by simp [results,results111,go_sem,c0,c1,c2,Result.andThen]; try rfl) rfl ?_
  exact ⟨dP (E:=E) (by rw [qJ.out,kX Gz.out (by rw [HEX.out,← HKK.out]; exact hkz),HEX.out,← HKK.out]) (by omega),HB2.out⟩
set_option maxHeartbeats 4000000 in
theorem CE (s:ByteArray) (hs:s.size≤1000000) (a:Nat) (ha:a < s.size) (h1:bD s[a]=false) (h2:((s[a].toNat:Int) == 34)=false) (h4:bg s[a]=false) (h5:bC s[a]=false) (h6:((s[a].toNat:Int) == 40)=true) (h7:s.size=a+1) (w:World) :
  Calls prog 111 #[.string s,.int .i64 a] w fun e w'=>e=.returned (ut a (bf (s.data.toList.drop a)))∧Below w.heap.size w w':=by
 have hd0:dW s[a]=false:=by
  have q4:=h4
  unfold bg at q4
  simp only [Bool.or_eq_false_iff] at q4
  exact q4.1.1.2
 have hT:=xA s a ha h1 h2 (by rw [List.drop_eq_nil_of_le (by rw [aW]; omega)]; simp [headB]) h4 h5
 have h8:¬ (a:Int)+1 < (s.size:Int):=by omega
 have Gz:=hid (Ah s a (a+1) (by omega) (by omega) hd0)
 have HB:=fun W=>ik s[a] W
 rw [h1] at HB
 have HR:=fun W=>iV s[a] W
 rw [h4] at HR
 have HS:=fun W=>kT s[a] W
 rw [h5] at HS
 have HT:=hid hT
 obtain ⟨E,hE⟩:∃ E:Nat,E=a+1:=⟨_,rfl⟩
 rw [← hE] at Gz
 have hEs:E≤s.size:=by omega
 have Q7:a < E:=by omega
 have qJ:Hid (bf (s.data.toList.drop a)=(kdN s a E,E - a)):=hid (by rw [HT.out,hE]; simp)
 have HN:=hid (qP w 3 a E)
 have hEi:(a:Int)+1=(E:Int):=by omega
 have ZX:=hid hE
 clear h1 h4 h5 hT hd0 hE HT
 have hsl:=lD s a E (by omega) hEs
 have qj:=fun W=>iO (s.extract a E) W (by simp; omega)
 obtain ⟨kk,hkk⟩:∃ kk,kk=bJ (s.extract a E):=⟨_,rfl⟩
 rw [← hkk] at qj
 have HKK:=hid hkk
 clear hkk
 generalize hex:s.extract a E=ex at *
 have HEX:=hid hex
 clear hex
 go_enter func111,ntmps111
 go_wp2_with fail
 refine (HB _).mono ?_
 rintro e w1 ⟨rfl,rfl⟩
 go_wp2_with fail
 refine (HR _).mono ?_
 rintro e w1 ⟨rfl,rfl⟩
 go_wp2_with fail
 refine (HS _).mono ?_
 rintro e w1 ⟨rfl,rfl⟩
 go_wp2_with fail
 refine (qj _).mono ?_
 rintro e w5 ⟨rfl,hb5⟩
 generalize ((w.alloc (.cells #[.int .i64 0,.int .i64 0,.int .i64 0] 119)).alloc (.cells #[.int .i64 3,.int .i64 (a:Int),.int .i64 (E:Int)] 119))=W0 at *
 have dN:=hid (HN.out.step hb5)
 clear hb5 HN
 have c0:=dN.out.own.c0
 have c1:=dN.out.own.c1
 have c2:=dN.out.own.c2
 have f0:=dN.out.own.f 0
 have f2:=dN.out.own.f 2
 have r0:=dN.out.res.c0
 have r1:=dN.out.res.c1
 have r2:=dN.out.res.c2
 have g0:=dN.out.res.f 0
 have g1:=dN.out.res.f 1
 have g2:=dN.out.res.f 2
 by_cases hkz:kk=0
 ·subst hkz
  go_wp2_with fail
  have HR2:=dN.out.res.set 3 (a:Int) (E:Int)
  have HB2:=hid (((dN.out.below.setCell (p:=⟨w.heap.size,0,none⟩) (Nat.le_refl _) (.int .i64 3)).setCell (p:=⟨w.heap.size,1,none⟩) (Nat.le_refl _) (.int .i64 (a:Int))).setCell (p:=⟨w.heap.size,2,none⟩) (Nat.le_refl _) (.int .i64 (E:Int)))
  clear c0 c1 c2 f0 f2 r0 r1 r2 g0 g1 g2 dN
  generalize (((w5.setCell ⟨w.heap.size,0,none⟩ (.int .i64 3)).setCell ⟨w.heap.size,1,none⟩ (.int .i64 (a:Int))).setCell ⟨w.heap.size,2,none⟩ (.int .i64 (E:Int)))=W2 at *
  have c0:=HR2.c0
  have c1:=HR2.c1
  have c2:=HR2.c2
  try simp only [Exit.inBlock,Exit.then]
  refine bodyPost_ret (by simp [results,results111,go_sem,c0,c1,c2,Result.andThen]; try rfl) rfl ?_
  exact ⟨dP (E:=E) (by rw [qJ.out,lh Gz.out (by rw [HEX.out,← HKK.out])]) (by omega),HB2.out⟩
 ·have hne:(kk != 0)=true:=by simpa using hkz
  have dG:=hid (dN.out.setK kk)
  go_wp2_with fail
  generalize w5.setCell ⟨w.heap.size+1,0,none⟩ (.int .i64 kk)=w6 at *
  clear c0 c1 c2 f0 f2 r0 r1 r2 g0 g1 g2 dN
  have c0:=dG.out.own.c0
  have c1:=dG.out.own.c1
  have c2:=dG.out.own.c2
  have f0:=dG.out.own.f 0
  have f2:=dG.out.own.f 2
  have r0:=dG.out.res.c0
  have r1:=dG.out.res.c1
  have r2:=dG.out.res.c2
  have g0:=dG.out.res.f 0
  have g1:=dG.out.res.f 1
  have g2:=dG.out.res.f 2
  have HR2:=dG.out.res.set kk (a:Int) (E:Int)
  have HB2:=hid (((dG.out.below.setCell (p:=⟨w.heap.size,0,none⟩) (Nat.le_refl _) (.int .i64 kk)).setCell (p:=⟨w.heap.size,1,none⟩) (Nat.le_refl _) (.int .i64 (a:Int))).setCell (p:=⟨w.heap.size,2,none⟩) (Nat.le_refl _) (.int .i64 (E:Int)))
  clear c0 c1 c2 f0 f2 r0 r1 r2 g0 g1 g2 dG
  generalize (((w6.setCell ⟨w.heap.size,0,none⟩ (.int .i64 kk)).setCell ⟨w.heap.size,1,none⟩ (.int .i64 (a:Int))).setCell ⟨w.heap.size,2,none⟩ (.int .i64 (E:Int)))=W2 at *
  have c0:=HR2.c0
  have c1:=HR2.c1
  have c2:=HR2.c2
  try simp only [Exit.inBlock,Exit.then]
  refine bodyPost_ret (by simp [results,results111,go_sem,c0,c1,c2,Result.andThen]; try rfl) rfl ?_
  exact ⟨dP (E:=E) (by rw [qJ.out,kX Gz.out (by rw [HEX.out,← HKK.out]; exact hkz),HEX.out,← HKK.out]) (by omega),HB2.out⟩
set_option maxHeartbeats 4000000 in
theorem DK (s:ByteArray) (hs:s.size≤1000000) (a:Nat) (ha:a < s.size) (h1:bD s[a]=false) (h2:((s[a].toNat:Int) == 34)=false) (h4:bg s[a]=false) (h5:bC s[a]=false) (h6:((s[a].toNat:Int) == 40)=true) (h7:a+1 < s.size) (h8:((s[a+1].toNat:Int) == 42)=false) (w:World) :
  Calls prog 111 #[.string s,.int .i64 a] w fun e w'=>e=.returned (ut a (bf (s.data.toList.drop a)))∧Below w.heap.size w w':=by
 have hd0:dW s[a]=false:=by
  have q4:=h4
  unfold bg at q4
  simp only [Bool.or_eq_false_iff] at q4
  exact q4.1.1.2
 have hT:=xA s a ha h1 h2 (by rw [drop_at s (a+1) h7,show headB (s[a+1] :: s.data.toList.drop (a+1+1)) 42=eqB s[a+1] 42 from rfl,show eqB s[a+1] 42=false from h8]; simp) h4 h5
 have h9:∀ j (hj:j < s.size),j=a+1→((s[j].toNat:Int) == 42)=false:=fun j hj e=>by subst e; exact h8
 have ZY:=hid h9
 clear h8 h9
 have Gz:=hid (Ah s a (a+1) (by omega) (by omega) hd0)
 have HB:=fun W=>ik s[a] W
 rw [h1] at HB
 have HR:=fun W=>iV s[a] W
 rw [h4] at HR
 have HS:=fun W=>kT s[a] W
 rw [h5] at HS
 have HT:=hid hT
 obtain ⟨E,hE⟩:∃ E:Nat,E=a+1:=⟨_,rfl⟩
 rw [← hE] at Gz
 have hEs:E≤s.size:=by omega
 have Q7:a < E:=by omega
 have qJ:Hid (bf (s.data.toList.drop a)=(kdN s a E,E - a)):=hid (by rw [HT.out,hE]; simp)
 have HN:=hid (qP w 3 a E)
 have hEi:(a:Int)+1=(E:Int):=by omega
 have ZX:=hid hE
 have hEl:E < s.size:=by omega
 have h9:=ZY.out E hEl hE
 clear ZY h7
 clear h1 h4 h5 hT hd0 hE HT
 have hsl:=lD s a E (by omega) hEs
 have qj:=fun W=>iO (s.extract a E) W (by simp; omega)
 obtain ⟨kk,hkk⟩:∃ kk,kk=bJ (s.extract a E):=⟨_,rfl⟩
 rw [← hkk] at qj
 have HKK:=hid hkk
 clear hkk
 generalize hex:s.extract a E=ex at *
 have HEX:=hid hex
 clear hex
 go_enter func111,ntmps111
 go_wp2_with fail
 refine (HB _).mono ?_
 rintro e w1 ⟨rfl,rfl⟩
 go_wp2_with fail
 refine (HR _).mono ?_
 rintro e w1 ⟨rfl,rfl⟩
 go_wp2_with fail
 refine (HS _).mono ?_
 rintro e w1 ⟨rfl,rfl⟩
 go_wp2_with fail
 refine (qj _).mono ?_
 rintro e w5 ⟨rfl,hb5⟩
 generalize ((w.alloc (.cells #[.int .i64 0,.int .i64 0,.int .i64 0] 119)).alloc (.cells #[.int .i64 3,.int .i64 (a:Int),.int .i64 (E:Int)] 119))=W0 at *
 have dN:=hid (HN.out.step hb5)
 clear hb5 HN
 have c0:=dN.out.own.c0
 have c1:=dN.out.own.c1
 have c2:=dN.out.own.c2
 have f0:=dN.out.own.f 0
 have f2:=dN.out.own.f 2
 have r0:=dN.out.res.c0
 have r1:=dN.out.res.c1
 have r2:=dN.out.res.c2
 have g0:=dN.out.res.f 0
 have g1:=dN.out.res.f 1
 have g2:=dN.out.res.f 2
 by_cases hkz:kk=0
 ·subst hkz
  go_wp2_with fail
  have HR2:=dN.out.res.set 3 (a:Int) (E:Int)
  have HB2:=hid (((dN.out.below.setCell (p:=⟨w.heap.size,0,none⟩) (Nat.le_refl _) (.int .i64 3)).setCell (p:=⟨w.heap.size,1,none⟩) (Nat.le_refl _) (.int .i64 (a:Int))).setCell (p:=⟨w.heap.size,2,none⟩) (Nat.le_refl _) (.int .i64 (E:Int)))
  clear c0 c1 c2 f0 f2 r0 r1 r2 g0 g1 g2 dN
  generalize (((w5.setCell ⟨w.heap.size,0,none⟩ (.int .i64 3)).setCell ⟨w.heap.size,1,none⟩ (.int .i64 (a:Int))).setCell ⟨w.heap.size,2,none⟩ (.int .i64 (E:Int)))=W2 at *
  have c0:=HR2.c0
  have c1:=HR2.c1
  have c2:=HR2.c2
  try simp only [Exit.inBlock,Exit.then]
  refine bodyPost_ret (by simp [results,results111,go_sem,c0,c1,c2,Result.andThen]; try rfl) rfl ?_
  exact ⟨dP (E:=E) (by rw [qJ.out,lh Gz.out (by rw [HEX.out,← HKK.out])]) (by omega),HB2.out⟩
 ·have hne:(kk != 0)=true:=by simpa using hkz
  have dG:=hid (dN.out.setK kk)
  go_wp2_with fail
  generalize w5.setCell ⟨w.heap.size+1,0,none⟩ (.int .i64 kk)=w6 at *
  clear c0 c1 c2 f0 f2 r0 r1 r2 g0 g1 g2 dN
  have c0:=dG.out.own.c0
  have c1:=dG.out.own.c1
  have c2:=dG.out.own.c2
  have f0:=dG.out.own.f 0
  have f2:=dG.out.own.f 2
  have r0:=dG.out.res.c0
  have r1:=dG.out.res.c1
  have r2:=dG.out.res.c2
  have g0:=dG.out.res.f 0
  have g1:=dG.out.res.f 1
  have g2:=dG.out.res.f 2
  have HR2:=dG.out.res.set kk (a:Int) (E:Int)
  have HB2:=hid (((dG.out.below.setCell (p:=⟨w.heap.size,0,none⟩) (Nat.le_refl _) (.int .i64 kk)).setCell (p:=⟨w.heap.size,1,none⟩) (Nat.le_refl _) (.int .i64 (a:Int))).setCell (p:=⟨w.heap.size,2,none⟩) (Nat.le_refl _) (.int .i64 (E:Int)))
  clear c0 c1 c2 f0 f2 r0 r1 r2 g0 g1 g2 dG
  generalize (((w6.setCell ⟨w.heap.size,0,none⟩ (.int .i64 kk)).setCell ⟨w.heap.size,1,none⟩ (.int .i64 (a:Int))).setCell ⟨w.heap.size,2,none⟩ (.int .i64 (E:Int)))=W2 at *
  have c0:=HR2.c0
  have c1:=HR2.c1
  have c2:=HR2.c2
  try simp only [Exit.inBlock,Exit.then]
  refine bodyPost_ret (by simp [results,results111,go_sem,c0,c1,c2,Result.andThen]; try rfl) rfl ?_
  exact ⟨dP (E:=E) (by rw [qJ.out,kX Gz.out (by rw [HEX.out,← HKK.out]; exact hkz),HEX.out,← HKK.out]) (by omega),HB2.out⟩
theorem IB (s:ByteArray) (hs:s.size≤1000000) (a:Nat) (ha:a < s.size) (w:World) :
  Calls prog 111 #[.string s,.int .i64 a] w fun e w'=>e=.returned (ut a (bf (s.data.toList.drop a)))∧Below w.heap.size w w':=by
 cases h1:bD s[a]
 ·cases h2:((s[a].toNat:Int) == 34)
  ·cases h4:bg s[a]
   ·cases h5:bC s[a]
    ·cases h6:((s[a].toNat:Int) == 40)
     ·exact Bq s hs a ha h1 h2 h4 h5 h6 w
     ·by_cases h7:a+1 < s.size
      ·cases h8:((s[a+1].toNat:Int) == 42)
       ·exact DK s hs a ha h1 h2 h4 h5 h6 h7 h8 w
       ·exact F9 s hs a ha h6 h7 h8 w
      ·exact CE s hs a ha h1 h2 h4 h5 h6 (by omega) w
    ·exact FY s hs a ha h5 w
   ·exact ET s hs a ha h4 w
  ·exact EP s hs a ha h2 w
 ·exact BU s hs a ha h1 w
end Go.Proofs.YtmpmfamiegpmgaaGreatDoor
