/-
  The document's lexer: all tokens of a text, those that say something, and the first bad one.; The plain parser goes the same way on tokens that stand further on.; A text with blanks and a note between its tokens has the same tokens: plain facts.; The plain parser goes the same way on tokens that stand further on: each part.; Bytes ahead that say nothing: the tokens behind them are the same, each so many bytes on.; Where a text is no part, the place is within: so much more than the same names outside say.
-/
import Derived.Test.YtmpmfamiegpmgaaGreatDoorFHB
import Derived.Test.YtmpmfamiegpmgaaGreatDoorFS
import Derived.Test.YtmpmfamiegpmgaaGreatDoorFE
import Derived.Test.YtmpmfamiegpmgaaGreatDoorFK
import Derived.Test.YtmpmfamiegpmgaaGreatDoorFG
import Derived.Test.YtmpmfamiegpmgaaGreatDoorFY
namespace Go.Proofs.YtmpmfamiegpmgaaGreatDoor
open Tryz
open Go.Lib (cell_of_heap hid)
open Go.RowKit
set_option maxRecDepth 20000
set_option linter.unusedVariables false
set_option linter.unusedSimpArgs false
theorem uh {w1 w2:World} {base:Nat} {v v':Value} {l:List Tok} {k:Int} {a e:Nat} (h:w2.ownsRow base 119 3 v' (l.length+1) (gG l++[.int .i64 k,.int .i64 (a:Int),.int .i64 (e:Int)])):w2.ownsRow base 119 3 v' (l++[(⟨k,a,e⟩:Tok)]).length (gG (l++[(⟨k,a,e⟩:Tok)])):=by
 rw [List.length_append,List.length_singleton,qE]; exact h
set_option maxHeartbeats 2000000 in
theorem I7 (s:ByteArray) (hs:s.size≤1000000) (w:World) :
  Calls prog 70 #[.string s] w fun e w'=>∃ v,e=.returned v∧qO w' v (jZ s)∧Below w.heap.size w w':=by
 obtain ⟨i0,hi0,hy0,hy1,hy2⟩:=info_parts info26
 have HSC:Hid (jZ s=dB s.size 0 s.data.toList++[⟨0,s.size,s.size⟩]):=hid (by unfold jZ gQ; rw [List.drop_zero])
 go_enter func70,ntmps70
 go_wp2_with fail
 go_loopw [3,4,5] (fun v av iv wr=>∃ (i a:Nat) (l:List Tok),i≤a∧a≤s.size∧l.length=i∧av=.int .i64 a∧iv=.int .i64 i∧Hid (dB s.size 0 s.data.toList=l++dB s.size a (s.data.toList.drop a))∧Hid (wr.ownsRow w.heap.size 119 3 v l.length (gG l))∧Below w.heap.size w wr) (fun _ _ iv _=>s.size+1 - (intOf iv).toNat)
 case atStart=>exact ⟨0,0,[],by omega,by omega,rfl,rfl,rfl,hid (by rw [List.drop_zero]; rfl),hid (World.ownsRow_nil _ _ _ _),Below.refl _ _⟩
 case round =>
  obtain ⟨i,a,l,hia,has,hl,rfl,rfl,HQ,HO,hbe⟩:=hrel
  subst hl
  obtain ⟨vp,vc,rfl⟩:=dR HO.out
  have hz:=hbe.size
  have HB:=hid hbe
  clear hbe
  have hi1:(l.length:Int)≤(s.size:Int):=by omega
  by_cases hlt:a < s.size
  ·have zD:=jL (s.data.toList.drop a) (by rw [drop_at s a hlt]; simp)
   rw [List.length_drop,aW] at zD
   have hsc:=GG s a hlt
   have HN:=hid (IB s hs a hlt wr)
   unfold ut at HN
   generalize bf (s.data.toList.drop a)=t at *
   obtain ⟨tk,tn⟩:=t
   simp only at zD hsc HN
   obtain ⟨E,hE⟩:∃ E,E=a+tn:=⟨_,rfl⟩
   rw [← hE] at hsc HN
   have hE1:a < E:=by omega
   have hE2:E≤s.size:=by omega
   have HS:=hid hsc
   clear zD hsc hE
   have hla:(a:Int) < (s.size:Int):=by omega
   go_wp2_with fail
   refine HN.out.mono ?_
   rintro e w1 ⟨rfl,hb1⟩
   have hz1:=hb1.size
   have tH:Below w1.heap.size w1 (w1.alloc (.cells #[.int .i64 tk,.int .i64 (a:Int),.int .i64 (E:Int)] 119)):=(Below.refl _ _).alloc (Nat.le_refl _) _
   have OZ:Below (w1.alloc (.cells #[.int .i64 tk,.int .i64 (a:Int),.int .i64 (E:Int)] 119)).heap.size (w1.alloc (.cells #[.int .i64 tk,.int .i64 (a:Int),.int .i64 (E:Int)] 119)) ((w1.alloc (.cells #[.int .i64 tk,.int .i64 (a:Int),.int .i64 (E:Int)] 119)).alloc (.cells #[.int .i64 tk,.int .i64 (a:Int),.int .i64 (E:Int)] 119)):=(Below.refl _ _).alloc (Nat.le_refl _) _
   have VK:=hid (ownsRow_below (ownsRow_below (ownsRow_below HO.out hb1) tH) OZ)
   have zG:=hid ((HB.out.trans (hb1.mono hz)).trans ((tH.trans (OZ.mono (by simp))).mono (by omega)))
   have HKX:=hid ((OZ.block w1.heap.size (by simp)).trans (heap_alloc_new w1 (.cells #[.int .i64 tk,.int .i64 (a:Int),.int .i64 (E:Int)] 119)))
   have oJ:=hid (HO.out.lt)
   clear tH OZ HN hb1
   have hl2:l.length≤1000000:=by omega
   go_wp2_with (at_builtin; refine wpList_append_own _ rfl _ _ 50 rfl w.heap.size 119 i0 (.agg #[.int .i64 0,.int .i64 0,.int .i64 0]) 3 24 underlying50 hi0 hy0 hy1 hy2 rfl (by omega) (.slice vp l.length vc) l.length (gG l) rfl VK.out ⟨w1.heap.size+1,0,none⟩ 1 1 [.int .i64 tk,.int .i64 (a:Int),.int .i64 (E:Int)] rfl rfl (World.news_of_block (cs:=#[.int .i64 tk,.int .i64 (a:Int),.int .i64 (E:Int)]) (t:=119) (fr:=(0,0)) (by have:=heap_alloc_new (w1.alloc (.cells #[.int .i64 tk,.int .i64 (a:Int),.int .i64 (E:Int)] 119)) (.cells #[.int .i64 tk,.int .i64 (a:Int),.int .i64 (E:Int)] 119); simpa using this)) (by simp [Value.oneCell']) (by unfold maxLen; omega) (by omega) (by simp; omega) ?_)
   intro v5 w5 hown hg _
   have hkx:=cell_of_heap ((hg.block w1.heap.size (by simp; omega) (fun e=>by have:=(oJ.out _ e.symm).2; omega)).trans HKX.out) 2
   simp only [List.getElem?_toArray,List.getElem?_cons_zero,List.getElem?_cons_succ] at hkx
   have kG:=hid (uh (w1:=w1) (v:=v5) hown)
   have yc:=hid (zG.out.grown hg (by simp; omega) (fun q hq=>(oJ.out q hq).1))
   clear hown hg
   go_wp2_with fail
   go_roundw
   case rel=>exact ⟨l.length+1,E,l++[⟨tk,a,E⟩],by omega,hE2,by simp,rfl,by go_num,hid (by rw [HQ.out,HS.out,List.append_assoc]; rfl),kG,yc.out⟩
   case measure=>simp [intOf]; omega
  ·have hae:a=s.size:=by omega
   have hla:¬ (a:Int) < (s.size:Int):=by omega
   have HE:Hid (jZ s=l++[⟨0,s.size,s.size⟩]):=hid (by rw [HSC.out,HQ.out,Du s a _ (by omega)]; simp)
   have tH:Below wr.heap.size wr (wr.alloc (.cells #[.int .i64 0,.int .i64 (s.size:Int),.int .i64 (s.size:Int)] 119)):=(Below.refl _ _).alloc (Nat.le_refl _) _
   have VK:=hid (ownsRow_below HO.out tH)
   have zG:=hid (HB.out.trans (tH.mono hz))
   have oJ:=hid (HO.out.lt)
   clear tH
   have hl2:l.length≤1000000:=by omega
   go_wp2_with (at_builtin; refine wpList_append_own _ rfl _ _ 50 rfl w.heap.size 119 i0 (.agg #[.int .i64 0,.int .i64 0,.int .i64 0]) 3 24 underlying50 hi0 hy0 hy1 hy2 rfl (by omega) (.slice vp l.length vc) l.length (gG l) rfl VK.out ⟨wr.heap.size,0,none⟩ 1 1 [.int .i64 0,.int .i64 (s.size:Int),.int .i64 (s.size:Int)] rfl rfl (World.news_of_block (cs:=#[.int .i64 0,.int .i64 (s.size:Int),.int .i64 (s.size:Int)]) (t:=119) (fr:=(0,0)) (heap_alloc_new wr _)) (by simp [Value.oneCell']) (by unfold maxLen; omega) (by omega) (by simp; omega) ?_)
   intro v5 w5 hown hg _
   have kG:=hid (uh (w1:=wr) (v:=v5) hown)
   have yc:=hid (zG.out.grown hg (by simp; omega) (fun q hq=>(oJ.out q hq).1))
   clear hown hg
   go_wp2_with fail
   go_ret
   exact ⟨_,rfl,⟨_,by rw [HE.out]; exact kG.out⟩,yc.out⟩
theorem JC (ask:Int→Bool) (l:List Tok) (i:Nat) (h:i < l.length):dO ask (l.take (i+1))=dO ask (l.take i)++(bif ask l[i].k then [l[i]] else []):=by
 rw [List.take_succ_eq_append_getElem h,kN]
 rfl
theorem Jg (s:ByteArray):0 < (jZ s).length∧(jZ s).length≤s.size+1:=by
 have:=(oN s.size 0 s.data.toList).2
 rw [aW] at this
 unfold jZ gQ
 rw [List.drop_zero,List.length_append,List.length_singleton]
 omega
set_option maxHeartbeats 2000000 in
theorem ww (s:ByteArray) (hs:s.size≤1000000) (w:World) :
  Calls prog 30 #[.string s] w fun e w'=>∃ v,e=.returned v∧qO w' v (aN s)∧Below w.heap.size w w':=by
 obtain ⟨i0,hi0,hy0,hy1,hy2⟩:=info_parts info26
 have hlen:=Jg s
 have HD:=hid (I7 s hs w)
 have HW:Hid (aN s=dO gB (jZ s)):=hid rfl
 generalize jZ s=L at *
 go_enter func30,ntmps30
 go_wp2_with fail
 refine HD.out.mono ?_
 rintro e w1 ⟨v1,rfl,ht,hb1⟩
 obtain ⟨g,c,rfl,hc,hm,hg,hcells⟩:=ht.open hlen.1
 have HC:=hid hcells
 have HB1:=hid hb1
 have hz1:=hb1.size
 clear ht hcells HD hb1
 go_wp2_with fail
 go_loopw [3,5] (fun v iv wr=>∃ i:Nat,i≤L.length∧iv=.int .i64 i∧Hid (wr.ownsRow w1.heap.size 119 3 v (dO gB (L.take i)).length (gG (dO gB (L.take i))))∧Below w1.heap.size w1 wr) (fun _ iv _=>L.length - (intOf iv).toNat)
 case atStart=>exact ⟨0,by omega,rfl,hid (World.ownsRow_nil _ _ _ _),Below.refl _ _⟩
 case round =>
  obtain ⟨i,hi,rfl,HO,hbe⟩:=hrel
  obtain ⟨vp,vc,rfl⟩:=dR HO.out
  have hz:=hbe.size
  by_cases hlt:i < L.length
  ·obtain ⟨q0,q1,q2⟩:=(HC.out.step hg hbe) i hlt
   have hT:=JC gB L i hlt
   have hpl:=nV gB (L.take i)
   rw [List.length_take] at hpl
   have hr1:(0:Int)≤(i:Int):=by omega
   have hr2:(i:Int) < (L.length:Int):=by omega
   have HB:=hid hbe
   generalize dO gB (L.take i)=P at *
   have hpl2:P.length≤1000001:=by omega
   clear hbe hpl
   generalize L[i]=T at *
   obtain ⟨tk,ta,te⟩:=T
   simp only at q0 q1 q2 hT
   by_cases h1:tk=1
   ·subst h1
    have HT:Hid (dO gB (L.take (i+1))=P):=hid (by rw [hT]; simp [gB])
    clear hT
    go_wp2_with fail
    go_roundw
    case rel=>exact ⟨i+1,by omega,by go_num,by rw [HT.out]; exact HO,HB.out⟩
    case measure=>simp [intOf]; omega
   ·by_cases h2:tk=2
    ·subst h2
     have HT:Hid (dO gB (L.take (i+1))=P):=hid (by rw [hT]; simp [gB])
     clear hT
     go_wp2_with fail
     go_roundw
     case rel=>exact ⟨i+1,by omega,by go_num,by rw [HT.out]; exact HO,HB.out⟩
     case measure=>simp [intOf]; omega
    ·have HT:Hid (dO gB (L.take (i+1))=P++[⟨tk,ta,te⟩]):=hid (by
      have e1:(tk == 1)=false:=by simpa using h1
      have e2:(tk == 2)=false:=by simpa using h2
      rw [hT]; simp only [gB,e1,e2]; rfl)
     have h1':(tk != 1)=true:=by simp [h1]
     have h2':(tk != 2)=true:=by simp [h2]
     have tH:Below wr.heap.size wr (wr.alloc (.cells #[.int .i64 tk,.int .i64 (ta:Int),.int .i64 (te:Int)] 119)):=(Below.refl _ _).alloc (Nat.le_refl _) _
     have VK:=hid (ownsRow_below HO.out tH)
     have zG:=hid (HB.out.trans (tH.mono hz))
     have oJ:=hid (HO.out.lt)
     clear tH hT
     go_wp2_with (at_builtin; refine wpList_append_own _ rfl _ _ 50 rfl w1.heap.size 119 i0 (.agg #[.int .i64 0,.int .i64 0,.int .i64 0]) 3 24 underlying50 hi0 hy0 hy1 hy2 rfl (by omega) (.slice vp P.length vc) P.length (gG P) rfl VK.out ⟨wr.heap.size,0,none⟩ 1 1 [.int .i64 tk,.int .i64 (ta:Int),.int .i64 (te:Int)] rfl rfl (World.news_of_block (cs:=#[.int .i64 tk,.int .i64 (ta:Int),.int .i64 (te:Int)]) (t:=119) (fr:=(0,0)) (heap_alloc_new wr _)) (by simp [Value.oneCell']) (by unfold maxLen; omega) (by omega) (by simp; omega) ?_)
     intro v5 w5 hown hg5 _
     have kG:=hid (uh (w1:=wr) (v:=v5) hown)
     have yc:=hid (zG.out.grown hg5 (by simp; omega) (fun q hq=>(oJ.out q hq).1))
     clear hown hg5
     go_wp2_with fail
     go_roundw
     case rel=>exact ⟨i+1,by omega,by go_num,by rw [HT.out]; exact kG,yc.out⟩
     case measure=>simp [intOf]; omega
  ·have hil:i=L.length:=by omega
   have Su:=hid (List.take_of_length_le (l:=L) (i:=i) (by omega))
   have HB:=hid (HB1.out.trans (hbe.mono hz1))
   clear hbe
   go_wp2_with fail
   go_ret
   exact ⟨_,rfl,⟨_,by rw [HW.out,← Su.out]; simpa [List.take_take] using HO.out⟩,HB.out⟩
def abA (s:ByteArray) (T:Tok):Int:=bif iI T then 0 else uA s T.a
mutual
def Pb.on (k:Nat):Pb→Pb
 | .mk a m f t ns ks=>.mk a m (f+k) (t+k) (ns.map fun x=>x+k) (onL k ks)
def onL (k:Nat):List Pb→List Pb
 | []=>[]
 | b :: r=>b.on k :: onL k r
end
theorem PK (k:Nat) (l:List Pb):onL k l=l.map (Pb.on k):=by
 induction l with
 | nil=>rfl
 | cons x r ih=>simp only [onL,List.map_cons,ih]
def Out.on {α:Type} (k:Nat) (g:α→α):Out α→Out α
 | .ok a n=>.ok (g a) (n+k)
 | .form n=>.form (n+k)
 | .deep n=>.deep (n+k)
 | .dry=>.dry
def Rel {α:Type} (k:Nat) (g:α→α) (o o':Out α):Prop:=o≠.dry→o'=o.on k g
theorem ak {α β:Type} {k:Nat} {g:α→α} {h:β→β} {o o':Out α} {f f':α→Nat→Out β} (ho:Rel k g o o') (hf:∀ x n,o=.ok x n→Rel k h (f x n) (f' (g x) (n+k))):Rel k h (o.bind f) (o'.bind f'):=by
 intro hnd
 rw [ho (aF hnd)]
 cases o with
 | ok x n=>exact hf x n rfl hnd
 | form n=>rfl
 | deep n=>rfl
 | dry=>exact absurd rfl hnd
theorem bu {α:Type} {k:Nat} {g:α→α} {c c':Bool} {a b a' b':Out α} (hc:c'=c) (ha:c=true→Rel k g a a') (hb:c=false→Rel k g b b'):Rel k g (bif c then a else b) (bif c' then a' else b'):=by
 subst hc
 cases c'
 ·exact hb rfl
 ·exact ha rfl
theorem aV {α:Type} {k:Nat} {g:α→α} {x x':α} {m m':Nat} (hx:x'=g x) (hm:m'=m+k):Rel k g (.ok x m) (.ok x' m'):=fun _=>by rw [hx,hm]; rfl
theorem vS {α:Type} {k:Nat} {g:α→α} {m m':Nat} (hm:m'=m+k):Rel k g (.form m) (.form m'):=fun _=>by rw [hm]; rfl
theorem aX (k:Nat) (a:Int) (f t:Nat) (ns:List Nat) (ks:List Pb):(node a f t ns ks).on k=node a (f+k) (t+k) (ns.map fun x=>x+k) (ks.map (Pb.on k)):=by
 simp only [node,Pb.on,PK,Pb.mk.injEq,List.map_map,true_and,and_true]
 refine ⟨by omega,by omega,?_⟩
 apply List.map_congr_left
 intro x _
 simp
theorem tX (k:Nat) (m:Int) (b:Pb):(marked m b).on k=marked m (b.on k):=by cases b; rfl
theorem su (k:Nat) (l:List Pb) (a:Int) (f t:Nat) (ns:List Nat):(fO l a f t ns).on k=fO (l.map (Pb.on k)) a (f+k) (t+k) (ns.map fun x=>x+k):=by
 match l with
 | []=>exact aX k a f t ns []
 | [b]=>rfl
 | b :: c :: r=>exact aX k a f t ns (b :: c :: r)
abbrev addN (k:Nat):Nat→Nat:=fun x=>x+k
abbrev DR (k:Nat):List Nat→List Nat:=List.map (addN k)
structure Sh (S S':Src) (k:Nat):Prop where
 kd:∀ i,S'.kd (i+k)=S.kd i
 tx:∀ i,S'.tx (i+k)=S.tx i
 len:S.ts.length≤S'.ts.length
section
variable {S S':Src} {k:Nat}
theorem Sh.is (H:Sh S S' k) (n:Nat) (t:List UInt8):S'.is (n+k) t=S.is n t:=by unfold Src.is; rw [H.tx]
theorem dE (H:Sh S S' k) (t:List UInt8) (n:Nat):Rel k id (S.need t n) (S'.need t (n+k)):=by
 unfold Src.need
 exact bu (H.is n t) (fun _=>aV rfl (by omega)) (fun _=>vS rfl)
theorem fU (H:Sh S S' k) (ks:List Int) (n:Nat):Rel k (addN k) (S.take ks n) (S'.take ks (n+k)):=by
 unfold Src.take
 rw [H.kd]
 exact bu rfl (fun _=>aV rfl (by omega)) (fun _=>vS rfl)
theorem CG {ks:List Int} {n x m:Nat} (h:S.take ks n=.ok x m):0 < m:=by
 unfold Src.take at h
 cases hc:ks.contains (S.kd n) <;> rw [hc] at h
 ·cases h
 ·simp only [cond_true,Out.ok.injEq] at h; omega
theorem NL (H:Sh S S' k) (ks:List Int):∀ (f f':Nat) (acc:List Nat) (n:Nat),f≤f'→0 < n→Rel k (DR k) (S.pathL ks f acc n) (S'.pathL ks f' (DR k acc) (n+k)):=by
 intro f
 induction f with
 | zero=>intro f' acc n _ _ h; exact absurd rfl h
 | succ f ih =>
  intro f' acc n hf hn
  obtain ⟨q,rfl⟩:∃ q,f'=q+1:=⟨f' - 1,by omega⟩
  unfold Src.pathL
  rw [show n+k - 1=n - 1+k by omega,H.kd,H.is]
  refine bu rfl (fun _=>?_) (fun _=>aV rfl rfl)
  rw [Nat.add_right_comm]
  refine ak (fU H ks (n+1)) (fun x m hx=>?_)
  have:=ih q (acc++[x]) m (by omega) (CG hx)
  simpa [DR] using this
theorem pX (H:Sh S S' k) (ks:List Int) (n:Nat):Rel k (DR k) (S.path ks n) (S'.path ks (n+k)):=by
 unfold Src.path
 exact ak (fU H ks n) (fun x m hx=>NL H ks _ _ [x] m H.len (CG hx))
theorem D5 {ks:List Int} {n m:Nat} {p:List Nat} (h:S.path ks n=.ok p m):0 < m:=by have:=Ar h; omega
theorem kD (H:Sh S S' k) (n:Nat):Rel k (DR k) (S.typePath n) (S'.typePath (n+k)):=by
 unfold Src.typePath
 refine ak (pX H [7,6] n) (fun p m hp=>?_)
 have:=D5 hp
 rw [show m+k - 1=m - 1+k by omega,H.kd]
 exact bu rfl (fun _=>aV rfl rfl) (fun _=>vS rfl)
theorem wU (H:Sh S S' k) (n:Nat):Rel k (addN k) (S.value n) (S'.value (n+k)):=by
 unfold Src.value
 exact bu (H.is n _) (fun _=>by rw [Nat.add_right_comm]; exact fU H _ _) (fun _=>fU H _ _)
theorem Sh.begins (H:Sh S S' k) (o:List (List UInt8)) (n:Nat):S'.begins o (n+k)=S.begins o n:=by
 unfold Src.begins Src.beginsK
 rw [H.kd,H.is,H.is]
 congr 1
 congr 1
 funext t
 exact H.is n t
theorem Sh.colon (H:Sh S S' k) (n:Nat):S'.colon (n+k)=((S.colon n).1,(S.colon n).2+k):=by
 unfold Src.colon
 rw [H.is,H.is]
 cases S.is n [58]
 ·cases S.is n [58,62]
  ·rfl
  ·simp; omega
 ·simp; omega
theorem Sh.declares (H:Sh S S' k) (a n:Nat):declares S' a (n+k)=declares S a n:=by
 unfold Go.Proofs.YtmpmfamiegpmgaaGreatDoor.declares
 simp only [H.is]
theorem Qg (H:Sh S S' k) (mark:List UInt8) {read read':Nat→Out Pb} (hr:∀ n,Rel k (Pb.on k) (read n) (read' (n+k))):∀ (f f':Nat) (acc:List Pb) (n:Nat),f≤f'→Rel k (List.map (Pb.on k)) (lI S mark read f acc n) (lI S' mark read' f' (acc.map (Pb.on k)) (n+k)):=by
 intro f
 induction f with
 | zero=>intro f' acc n _ h; exact absurd rfl h
 | succ f ih =>
  intro f' acc n hf
  obtain ⟨q,rfl⟩:∃ q,f'=q+1:=⟨f' - 1,by omega⟩
  unfold lI
  refine bu (H.is n mark) (fun _=>?_) (fun _=>aV rfl rfl)
  rw [Nat.add_right_comm]
  refine ak (hr (n+1)) (fun b m _=>?_)
  have:=ih q (acc++[b]) m (by omega)
  simpa using this
theorem nz (H:Sh S S' k) {F F':Nat} (hF:F≤F') (mark:List UInt8) {read read':Nat→Out Pb} (hr:∀ n,Rel k (Pb.on k) (read n) (read' (n+k))) (n:Nat):Rel k (List.map (Pb.on k)) (gV S F mark read n) (gV S' F' mark read' (n+k)):=by
 unfold gV
 exact ak (hr n) (fun b m _=>Qg H mark hr F F' [b] m hF)
end
abbrev blL:List UInt8:=[32,40,42,32,120,32,40,42,42,41,32,42,41,10]
def spL:List (Int × List UInt8)→List UInt8
 | []=>blL++blL
 | (_,x) :: r=>blL++(x++spL r)
def Own (p:Int × List UInt8):Prop:=p.2≠[]∧bf p.2=(p.1,p.2.length)∧p.1≠3∧p.1≠1∧p.1≠2
def Wv:Nat→List (Int × List UInt8)→List Tok
 | _,[]=>[]
 | a,(k,x) :: r=>⟨k,a+14,a+14+x.length⟩ :: Wv (a+14+x.length) r
def YO (s:ByteArray):List (Int × List UInt8):=(kJ s).map fun T=>(T.k,(s.extract T.a T.e).data.toList)
section
variable {S S':Src} {k:Nat}
theorem BF (H:Sh S S' k) {F F':Nat} (hF:F≤F') {rec rec':Nt→Nat→Nat→Out Pb} {d:Nat} (hr:∀ nt n,Rel k (Pb.on k) (rec nt d n) (rec' nt d (n+k))) (n:Nat):Rel k (Pb.on k) (dH S F rec d n) (dH S' F' rec' d (n+k)):=by
 unfold dH
 refine bu (by rw [H.kd]) (fun _=>aV (by simp [aX,Nat.add_right_comm]) (by omega)) (fun _=>bu (H.is n _) (fun _=>?_) (fun _=>?_))
 ·rw [Nat.add_right_comm]
  refine ak (nz H hF [44] (hr .ty) (n+1)) (fun l m _=>?_)
  refine ak (dE H [41] m) (fun u m2 _=>?_)
  match l with
  | [b]=>exact aV rfl rfl
  | []=>exact ak (kD H m2) (fun p m3 _=>aV (by simp [aX,Nat.add_right_comm]) (by omega))
  | a :: b :: c=>exact ak (kD H m2) (fun p m3 _=>aV (by simp [aX,Nat.add_right_comm]) (by omega))
 ·exact ak (kD H n) (fun p m3 _=>aV (by simp [aX,Nat.add_right_comm]) (by omega))
theorem Dq (H:Sh S S' k) (n:Nat):∀ (f f':Nat) (b:Pb) (m:Nat),f≤f'→Rel k (Pb.on k) (dJ S n f b m) (dJ S' (n+k) f' (b.on k) (m+k)):=by
 intro f
 induction f with
 | zero=>intro f' b m _ h; exact absurd rfl h
 | succ f ih =>
  intro f' b m hf
  obtain ⟨q,rfl⟩:∃ q,f'=q+1:=⟨f' - 1,by omega⟩
  unfold dJ
  refine bu (by rw [H.kd]) (fun _=>?_) (fun _=>aV rfl rfl)
  refine ak (kD H m) (fun p m1 _=>?_)
  have:=ih q (node 42 n m1 p [b]) m1 (by omega)
  rwa [aX] at this
theorem FK (H:Sh S S' k) {F F':Nat} (hF:F≤F') {rec rec':Nt→Nat→Nat→Out Pb} {d:Nat} (hr:∀ nt n,Rel k (Pb.on k) (rec nt d n) (rec' nt d (n+k))) (n:Nat):Rel k (Pb.on k) (dA S F rec d n) (dA S' F' rec' d (n+k)):=by
 unfold dA
 exact ak (BF H hF hr n) (fun b m _=>Dq H n F F' b m hF)
theorem FU (H:Sh S S' k) {F F':Nat} (hF:F≤F') {rec rec':Nt→Nat→Nat→Out Pb} {d:Nat} (hr:∀ nt n,Rel k (Pb.on k) (rec nt d n) (rec' nt d (n+k))) (n:Nat):Rel k (Pb.on k) (dX S F rec d n) (dX S' F' rec' d (n+k)):=by
 unfold dX
 exact ak (nz H hF [42] (fun n=>FK H hF hr n) n) (fun l m _=>aV (by simp [su]) rfl)
theorem V7 (H:Sh S S' k) {F F':Nat} (hF:F≤F') {rec rec':Nt→Nat→Nat→Out Pb} {d:Nat} (hr:∀ nt n,Rel k (Pb.on k) (rec nt d n) (rec' nt d (n+k))) (n:Nat):Rel k (Pb.on k) (tyO S F rec d n) (tyO S' F' rec' d (n+k)):=by
 unfold tyO
 refine ak (FU H hF hr n) (fun b m _=>bu (H.is m _) (fun _=>?_) (fun _=>aV rfl rfl))
 rw [Nat.add_right_comm]
 exact ak (hr .ty (m+1)) (fun c m2 _=>aV (by simp [aX,Nat.add_right_comm]) (by omega))
theorem NC (H:Sh S S' k) {F F':Nat} (hF:F≤F') (fr:Nat) {mem mem':Nat→Out Pb} (hm:∀ n,Rel k (Pb.on k) (mem n) (mem' (n+k))) (n:Nat):Rel k (Pb.on k) (iE S F fr mem n) (iE S' F' (fr+k) mem' (n+k)):=by
 unfold iE
 refine bu (H.is n _) (fun _=>aV (by simp [aX,Nat.add_right_comm]) (by omega)) (fun _=>?_)
 refine ak (nz H hF [44] hm n) (fun l m _=>?_)
 exact ak (dE H [41] m) (fun u m2 _=>aV (by simp [su]) rfl)
theorem Df (H:Sh S S' k) {F F':Nat} (hF:F≤F') (nm:Int) {mem mem':Nat→Out Pb} (hm:∀ n,Rel k (Pb.on k) (mem n) (mem' (n+k))) (n:Nat):Rel k (Pb.on k) (plainO S F nm mem n) (plainO S' F' nm mem' (n+k)):=by
 unfold plainO
 refine bu (by rw [H.kd]) (fun _=>aV (by simp [aX,Nat.add_right_comm]) (by omega)) (fun _=>bu (by rw [H.kd]) (fun _=>aV (by simp [aX,Nat.add_right_comm]) (by omega)) (fun _=>bu (H.is n _) (fun _=>?_) (fun _=>?_)))
 ·rw [Nat.add_right_comm]; exact NC H hF n hm (n+1)
 ·exact ak (wU H n) (fun m m2 _=>aV (by simp [aX,Nat.add_right_comm]) (by omega))
theorem kQ (H:Sh S S' k) {F F':Nat} (hF:F≤F') {rec rec':Nt→Nat→Nat→Out Pb} {d:Nat} (hr:∀ nt n,Rel k (Pb.on k) (rec nt d n) (rec' nt d (n+k))) (n:Nat):Rel k (Pb.on k) (bV S F rec d n) (bV S' F' rec' d (n+k)):=by
 unfold bV
 refine bu (H.is n _) (fun _=>aV (by simp [aX,Nat.add_right_comm]) (by omega)) (fun _=>bu (by rw [H.kd]) (fun _=>?_) (fun _=>Df H hF 39 (hr .pat) n))
 exact ak (pX H [7] n) (fun p m _=>aV (by simp [aX,Nat.add_right_comm]) (by omega))
theorem Tz (H:Sh S S' k) {F F':Nat} (hF:F≤F') {rec rec':Nt→Nat→Nat→Out Pb} {d:Nat} (hr:∀ nt n,Rel k (Pb.on k) (rec nt d n) (rec' nt d (n+k))) (n:Nat):Rel k (Pb.on k) (ou S F rec d n) (ou S' F' rec' d (n+k)):=by
 unfold ou
 refine bu (by rw [H.kd,show n+k+1=n+1+k by omega,H.is]) (fun _=>?_) (fun _=>bu (by rw [H.kd]) (fun _=>?_) (fun _=>kQ H hF hr n))
 ·rw [show n+k+2=n+2+k by omega]
  exact ak (hr .pat (n+2)) (fun c m2 _=>aV (by simp [aX,Nat.add_right_comm]) (by omega))
 ·refine ak (pX H [7] n) (fun p m _=>bu (H.begins _ m) (fun _=>?_) (fun _=>aV (by simp [aX,Nat.add_right_comm]) (by omega)))
  exact ak (kQ H hF hr m) (fun c m2 _=>aV (by simp [aX,Nat.add_right_comm]) (by omega))
theorem Oq (H:Sh S S' k) {F F':Nat} (hF:F≤F') {rec rec':Nt→Nat→Nat→Out Pb} {d:Nat} (hr:∀ nt n,Rel k (Pb.on k) (rec nt d n) (rec' nt d (n+k))) (a:Nat):∀ (f f':Nat) (acc:List Pb) (n:Nat),f≤f'→Rel k (List.map (Pb.on k)) (jI S rec d a f acc n) (jI S' rec' d a f' (acc.map (Pb.on k)) (n+k)):=by
 intro f
 induction f with
 | zero=>intro f' acc n _ h; exact absurd rfl h
 | succ f ih =>
  intro f' acc n hf
  obtain ⟨q,rfl⟩:∃ q,f'=q+1:=⟨f' - 1,by omega⟩
  unfold jI
  refine bu (H.is n _) (fun _=>?_) (fun _=>bu (H.declares a n) (fun _=>?_) (fun _=>aV rfl rfl))
  ·rw [Nat.add_right_comm]; exact ih q acc (n+1) (by omega)
  ·refine ak (hr (.dec a) n) (fun b m _=>?_)
   have:=ih q (acc++[b]) m (by omega)
   simpa using this
theorem Aw (H:Sh S S' k) {F F':Nat} (hF:F≤F') {rec rec':Nt→Nat→Nat→Out Pb} {d:Nat} (hr:∀ nt n,Rel k (Pb.on k) (rec nt d n) (rec' nt d (n+k))) (a n:Nat):Rel k (List.map (Pb.on k)) (iw S F rec d a n) (iw S' F' rec' d a (n+k)):=by
 exact Oq H hF hr a F F' [] n hF
theorem uk (H:Sh S S' k) {F F':Nat} (hF:F≤F') {rec rec':Nt→Nat→Nat→Out Pb} {d:Nat} (hr:∀ nt n,Rel k (Pb.on k) (rec nt d n) (rec' nt d (n+k))) (a n:Nat):Rel k (Pb.on k) (fE S F rec d a n) (fE S' F' rec' d a (n+k)):=by
 unfold fE
 exact ak (Aw H hF hr a n) (fun l m _=>aV (by simp [aX,Nat.add_right_comm]) (by omega))
theorem GH (H:Sh S S' k) {F F':Nat} (hF:F≤F') {rec rec':Nt→Nat→Nat→Out Pb} {d:Nat} (hr:∀ nt n,Rel k (Pb.on k) (rec nt d n) (rec' nt d (n+k))) (n:Nat):Rel k (Pb.on k) (iJ S F rec d n) (iJ S' F' rec' d (n+k)):=by
 unfold iJ
 refine bu (by rw [H.kd]) (fun _=>?_) (fun _=>bu (H.is n _) (fun _=>?_) (fun _=>Df H hF 28 (hr .exp) n))
 ·refine ak (pX H [7,6] n) (fun p m hp=>?_)
  have:=D5 hp
  rw [show m+k - 1=m - 1+k by omega,H.kd]
  exact bu rfl (fun _=>aV (by simp [aX,Nat.add_right_comm]) (by omega)) (fun _=>aV (by simp [aX,Nat.add_right_comm]) (by omega))
 ·rw [Nat.add_right_comm]
  refine ak (uk H hF hr 0 (n+1)) (fun ds m _=>?_)
  refine ak (dE H _ m) (fun u m2 _=>?_)
  refine ak (hr .exp m2) (fun e m3 _=>?_)
  exact ak (dE H _ m3) (fun u m4 _=>aV (by simp [aX,Nat.add_right_comm]) (by omega))
theorem MN (H:Sh S S' k) {F F':Nat} (hF:F≤F') {rec rec':Nt→Nat→Nat→Out Pb} {d:Nat} (hr:∀ nt n,Rel k (Pb.on k) (rec nt d n) (rec' nt d (n+k))):∀ (f f':Nat) (acc:List Pb) (n:Nat),f≤f'→Rel k (List.map (Pb.on k)) (je S F rec d f acc n) (je S' F' rec' d f' (acc.map (Pb.on k)) (n+k)):=by
 intro f
 induction f with
 | zero=>intro f' acc n _ h; exact absurd rfl h
 | succ f ih =>
  intro f' acc n hf
  obtain ⟨q,rfl⟩:∃ q,f'=q+1:=⟨f' - 1,by omega⟩
  unfold je
  refine bu (H.begins _ n) (fun _=>?_) (fun _=>aV rfl rfl)
  ·refine ak (GH H hF hr n) (fun b m _=>?_)
   have:=ih q (acc++[b]) m (by omega)
   simpa using this
theorem G6 (H:Sh S S' k) {F F':Nat} (hF:F≤F') {rec rec':Nt→Nat→Nat→Out Pb} {d:Nat} (hr:∀ nt n,Rel k (Pb.on k) (rec nt d n) (rec' nt d (n+k))) (n:Nat):Rel k (Pb.on k) (jH S F rec d n) (jH S' F' rec' d (n+k)):=by
 unfold jH
 refine ak (GH H hF hr n) (fun b m _=>?_)
 exact ak (MN H hF hr F F' [b] m hF) (fun l m2 _=>aV (by simp [su]) rfl)
abbrev onI (k:Nat):List Nat × List Pb→List Nat × List Pb:=fun l=>(DR k l.1,l.2.map (Pb.on k))
theorem Jq (H:Sh S S' k) {F F':Nat} (hF:F≤F') {rec rec':Nt→Nat→Nat→Out Pb} {d:Nat} (hr:∀ nt n,Rel k (Pb.on k) (rec nt d n) (rec' nt d (n+k))):∀ (f f':Nat) (sg:List Nat) (acc:List Pb) (n:Nat),f≤f'→Rel k (onI k) (iY S F rec d f sg acc n) (iY S' F' rec' d f' (DR k sg) (acc.map (Pb.on k)) (n+k)):=by
 intro f
 induction f with
 | zero=>intro f' sg acc n _ h; exact absurd rfl h
 | succ f ih =>
  intro f' sg acc n hf
  obtain ⟨q,rfl⟩:∃ q,f'=q+1:=⟨f' - 1,by omega⟩
  unfold iY
  refine bu (by rw [H.kd]) (fun _=>?_) (fun _=>aV rfl rfl)
  refine ak (fU H [9] n) (fun x m _=>?_)
  refine ak (G6 H hF hr m) (fun b m2 _=>?_)
  have:=ih q (sg++[x]) (acc++[b]) m2 (by omega)
  simpa [DR] using this
theorem MI (H:Sh S S' k) {F F':Nat} (hF:F≤F') {rec rec':Nt→Nat→Nat→Out Pb} {d:Nat} (hr:∀ nt n,Rel k (Pb.on k) (rec nt d n) (rec' nt d (n+k))) (n:Nat):Rel k (Pb.on k) (gK S F rec d n) (gK S' F' rec' d (n+k)):=by
 unfold gK
 refine ak (G6 H hF hr n) (fun b m _=>?_)
 exact ak (Jq H hF hr F F' [] [b] m hF) (fun l m2 _=>aV (by simp [su,onI]) rfl)
theorem yF (H:Sh S S' k) {F F':Nat} (hF:F≤F') {rec rec':Nt→Nat→Nat→Out Pb} {d:Nat} (hr:∀ nt n,Rel k (Pb.on k) (rec nt d n) (rec' nt d (n+k))) (a:Int) (fr n:Nat):Rel k (Pb.on k) (fF S rec d a fr n) (fF S' rec' d a (fr+k) (n+k)):=by
 unfold fF
 refine ak (hr .pat n) (fun p m _=>?_)
 refine ak (dE H _ m) (fun u m2 _=>?_)
 exact ak (hr .exp m2) (fun e m3 _=>aV (by simp [aX,Nat.add_right_comm]) (by omega))
theorem TC (H:Sh S S' k) {F F':Nat} (hF:F≤F') {rec rec':Nt→Nat→Nat→Out Pb} {d:Nat} (hr:∀ nt n,Rel k (Pb.on k) (rec nt d n) (rec' nt d (n+k))) (n:Nat):Rel k (Pb.on k) (ny S F rec d n) (ny S' F' rec' d (n+k)):=by
 unfold ny
 refine bu (H.is n _) (fun _=>?_) (fun _=>bu (H.is n _) (fun _=>?_) (fun _=>bu (H.is n _) (fun _=>?_) (fun _=>MI H hF hr n)))
 ·rw [Nat.add_right_comm]
  refine ak (hr .exp (n+1)) (fun a m _=>?_)
  refine ak (dE H _ m) (fun u m2 _=>?_)
  refine ak (hr .exp m2) (fun b m3 _=>?_)
  refine ak (dE H _ m3) (fun u m4 _=>?_)
  exact ak (hr .exp m4) (fun c m5 _=>aV (by simp [aX,Nat.add_right_comm]) (by omega))
 ·rw [Nat.add_right_comm]
  refine ak (hr .exp (n+1)) (fun a m _=>?_)
  refine ak (dE H _ m) (fun u m2 _=>?_)
  exact ak (nz H hF _ (fun n=>yF H hF hr 33 n n) m2) (fun l m3 _=>aV (by simp [aX,Nat.add_right_comm]) (by omega))
 ·rw [Nat.add_right_comm]
  exact yF H hF hr 34 n (n+1)
theorem Nj (H:Sh S S' k):∀ (f f' n:Nat),f≤f'→Rel k id (jB S f n) (jB S' f' (n+k)):=by
 intro f
 induction f with
 | zero=>intro f' n _ h; exact absurd rfl h
 | succ f ih =>
  intro f' n hf
  obtain ⟨q,rfl⟩:∃ q,f'=q+1:=⟨f' - 1,by omega⟩
  unfold jB
  refine bu (H.is n _) (fun _=>?_) (fun _=>aV rfl rfl)
  rw [Nat.add_right_comm]
  exact ak (fU H [8] (n+1)) (fun x m _=>ih q m (by omega))
theorem pq (H:Sh S S' k) {F F':Nat} (hF:F≤F') (n:Nat):Rel k (addN k) (bW S F n) (bW S' F' (n+k)):=by
 unfold bW
 refine bu (by rw [H.kd]) (fun _=>?_) (fun _=>bu (H.is n _) (fun _=>?_) (fun _=>fU H [6] n))
 ·rw [Nat.add_right_comm]; exact fU H [6] (n+1)
 ·rw [Nat.add_right_comm]
  refine ak (fU H [8] (n+1)) (fun x m _=>?_)
  refine ak (Nj H F F' m hF) (fun u m2 _=>?_)
  exact ak (dE H _ m2) (fun u m3 _=>fU H [6] m3)
theorem Tf (H:Sh S S' k) {F F':Nat} (hF:F≤F') {rec rec':Nt→Nat→Nat→Out Pb} {d:Nat} (hr:∀ nt n,Rel k (Pb.on k) (rec nt d n) (rec' nt d (n+k))) (n:Nat):Rel k (Pb.on k) (lZ S rec d n) (lZ S' rec' d (n+k)):=by
 unfold lZ
 refine ak (fU H [7] n) (fun x m _=>bu (H.is m _) (fun _=>?_) (fun _=>aV (by simp [aX,Nat.add_right_comm]) (by omega)))
 rw [Nat.add_right_comm]
 exact ak (hr .ty (m+1)) (fun c m2 _=>aV (by simp [aX,Nat.add_right_comm]) (by omega))
theorem MQ (H:Sh S S' k) {F F':Nat} (hF:F≤F') {rec rec':Nt→Nat→Nat→Out Pb} {d:Nat} (hr:∀ nt n,Rel k (Pb.on k) (rec nt d n) (rec' nt d (n+k))) (n:Nat):Rel k (Pb.on k) (gy S F rec d n) (gy S' F' rec' d (n+k)):=by
 unfold gy
 refine ak (pq H hF n) (fun x m _=>?_)
 refine ak (dE H _ m) (fun u m2 _=>?_)
 exact ak (nz H hF _ (fun n=>Tf H hF hr n) m2) (fun l m3 _=>aV (by simp [aX,Nat.add_right_comm]) (by omega))
theorem sV (H:Sh S S' k) {F F':Nat} (hF:F≤F') {rec rec':Nt→Nat→Nat→Out Pb} {d:Nat} (hr:∀ nt n,Rel k (Pb.on k) (rec nt d n) (rec' nt d (n+k))) (fr n:Nat):Rel k (Pb.on k) (bZ S F rec d fr n) (bZ S' F' rec' d (fr+k) (n+k)):=by
 unfold bZ
 exact ak (nz H hF _ (fun n=>MQ H hF hr n) n) (fun l m3 _=>aV (by simp [aX,Nat.add_right_comm]) (by omega))
theorem PE (H:Sh S S' k) {F F':Nat} (hF:F≤F') {rec rec':Nt→Nat→Nat→Out Pb} {d:Nat} (hr:∀ nt n,Rel k (Pb.on k) (rec nt d n) (rec' nt d (n+k))) (n:Nat):Rel k (Pb.on k) (jF S F rec d n) (jF S' F' rec' d (n+k)):=by
 unfold jF
 refine bu (H.is n _) (fun _=>?_) (fun _=>bu (H.is n _) (fun _=>?_) (fun _=>bu (H.is n _) (fun _=>?_) (fun _=>bu (H.is n _) (fun _=>?_) (fun _=>?_))))
 ·rw [Nat.add_right_comm]
  refine ak (wU H (n+1)) (fun x m _=>?_)
  refine ak (dE H _ m) (fun u m2 _=>?_)
  exact ak (hr .ty m2) (fun c m3 _=>aV (by simp [aX,Nat.add_right_comm]) (by omega))
 ·rw [Nat.add_right_comm]
  refine ak (pq H hF (n+1)) (fun x m _=>bu (H.is m _) (fun _=>?_) (fun _=>aV (by simp [aX,Nat.add_right_comm]) (by omega)))
  rw [Nat.add_right_comm]
  exact ak (hr .ty (m+1)) (fun c m2 _=>aV (by simp [aX,Nat.add_right_comm]) (by omega))
 ·rw [Nat.add_right_comm]; exact sV H hF hr n (n+1)
 ·rw [Nat.add_right_comm]
  refine ak (fU H [7] (n+1)) (fun x m _=>?_)
  refine ak (dE H _ m) (fun u m2 _=>?_)
  exact ak (hr .sig m2) (fun c m3 _=>aV (by simp [aX,Nat.add_right_comm]) (by omega))
 ·refine ak (dE H _ n) (fun u m2 _=>?_)
  exact ak (hr .sig m2) (fun c m3 _=>aV (by simp [aX,Nat.add_right_comm]) (by omega))
theorem Js (H:Sh S S' k) {F F':Nat} (hF:F≤F') {rec rec':Nt→Nat→Nat→Out Pb} {d:Nat} (hr:∀ nt n,Rel k (Pb.on k) (rec nt d n) (rec' nt d (n+k))):∀ (f f':Nat) (acc:List Pb) (n:Nat),f≤f'→Rel k (List.map (Pb.on k)) (iD S F rec d f acc n) (iD S' F' rec' d f' (acc.map (Pb.on k)) (n+k)):=by
 intro f
 induction f with
 | zero=>intro f' acc n _ h; exact absurd rfl h
 | succ f ih =>
  intro f' acc n hf
  obtain ⟨q,rfl⟩:∃ q,f'=q+1:=⟨f' - 1,by omega⟩
  unfold iD
  refine bu (H.is n _) (fun _=>aV rfl (by omega)) (fun _=>bu (H.is n _) (fun _=>?_) (fun _=>?_))
  ·rw [Nat.add_right_comm]; exact ih q acc (n+1) (by omega)
  ·refine ak (PE H hF hr n) (fun b m _=>?_)
   have:=ih q (acc++[b]) m (by omega)
   simpa using this
theorem Gm (H:Sh S S' k) {F F':Nat} (hF:F≤F') {rec rec':Nt→Nat→Nat→Out Pb} {d:Nat} (hr:∀ nt n,Rel k (Pb.on k) (rec nt d n) (rec' nt d (n+k))) (n:Nat):Rel k (Pb.on k) (dZ S F rec d n) (dZ S' F' rec' d (n+k)):=by
 unfold dZ
 refine bu (H.is n _) (fun _=>?_) (fun _=>?_)
 ·rw [Nat.add_right_comm]
  exact ak (Js H hF hr F F' [] (n+1) hF) (fun l m _=>aV (by simp [aX,Nat.add_right_comm]) (by omega))
 ·exact ak (fU H [7] n) (fun x m _=>aV (by simp [aX,Nat.add_right_comm]) (by omega))
theorem Jp (H:Sh S S' k) {F F':Nat} (hF:F≤F') {rec rec':Nt→Nat→Nat→Out Pb} {d:Nat} (hr:∀ nt n,Rel k (Pb.on k) (rec nt d n) (rec' nt d (n+k))) (fr:Nat):∀ (f f':Nat) (b:Pb) (n:Nat),f≤f'→Rel k (Pb.on k) (iQ S rec d fr f b n) (iQ S' rec' d (fr+k) f' (b.on k) (n+k)):=by
 intro f
 induction f with
 | zero=>intro f' b n _ h; exact absurd rfl h
 | succ f ih =>
  intro f' b n hf
  obtain ⟨q,rfl⟩:∃ q,f'=q+1:=⟨f' - 1,by omega⟩
  unfold iQ
  refine bu (H.is n _) (fun _=>?_) (fun _=>aV rfl rfl)
  rw [Nat.add_right_comm]
  refine ak (dE H _ (n+1)) (fun u m _=>?_)
  refine ak (kD H m) (fun p m2 _=>?_)
  refine ak (dE H _ m2) (fun u m3 _=>?_)
  refine ak (hr .ty m3) (fun c m4 _=>?_)
  have:=ih q (node 21 fr m4 p [b,c]) m4 (by omega)
  rwa [aX] at this
theorem Tu (H:Sh S S' k) {F F':Nat} (hF:F≤F') {rec rec':Nt→Nat→Nat→Out Pb} {d:Nat} (hr:∀ nt n,Rel k (Pb.on k) (rec nt d n) (rec' nt d (n+k))) (n:Nat):Rel k (Pb.on k) (nS S F rec d n) (nS S' F' rec' d (n+k)):=by
 unfold nS
 exact ak (Gm H hF hr n) (fun b m _=>Jp H hF hr n F F' b m hF)
theorem Fe (H:Sh S S' k) {F F':Nat} (hF:F≤F') {rec rec':Nt→Nat→Nat→Out Pb} {d:Nat} (hr:∀ nt n,Rel k (Pb.on k) (rec nt d n) (rec' nt d (n+k))) (n:Nat):Rel k (Pb.on k) (dY S F rec d n) (dY S' F' rec' d (n+k)):=by
 unfold dY
 refine bu (H.is n _) (fun _=>?_) (fun _=>bu (by rw [H.kd,show n+k+1=n+1+k by omega,H.is]) (fun _=>?_) (fun _=>?_))
 ·rw [Nat.add_right_comm]
  refine ak (Aw H hF hr 1 (n+1)) (fun l m _=>?_)
  exact ak (dE H _ m) (fun u m2 _=>aV (by simp [aX,Nat.add_right_comm]) (by omega))
 ·rw [show n+k+2=n+2+k by omega]
  refine ak (hr .str (n+2)) (fun c m2 _=>?_)
  exact ak (dE H _ m2) (fun u m3 _=>aV (by simp [aX,Nat.add_right_comm]) (by omega))
 ·exact ak (pX H [7] n) (fun p m _=>aV (by simp [aX,Nat.add_right_comm]) (by omega))
theorem N8 (H:Sh S S' k) {F F':Nat} (hF:F≤F') {rec rec':Nt→Nat→Nat→Out Pb} {d:Nat} (hr:∀ nt n,Rel k (Pb.on k) (rec nt d n) (rec' nt d (n+k))) (fr:Nat):∀ (f f':Nat) (b:Pb) (n:Nat),f≤f'→Rel k (Pb.on k) (kE S rec d fr f b n) (kE S' rec' d (fr+k) f' (b.on k) (n+k)):=by
 intro f
 induction f with
 | zero=>intro f' b n _ h; exact absurd rfl h
 | succ f ih =>
  intro f' b n hf
  obtain ⟨q,rfl⟩:∃ q,f'=q+1:=⟨f' - 1,by omega⟩
  unfold kE
  rw [H.colon]
  refine bu rfl (fun _=>aV rfl rfl) (fun _=>?_)
  rw [Nat.add_right_comm]
  refine ak (hr .sig (n+1)) (fun c m _=>?_)
  have:=ih q (marked ((S.colon n).1:Int) (node 18 fr m [] [b,c])) m (by omega)
  rwa [tX,aX] at this
theorem TG (H:Sh S S' k) {F F':Nat} (hF:F≤F') {rec rec':Nt→Nat→Nat→Out Pb} {d:Nat} (hr:∀ nt n,Rel k (Pb.on k) (rec nt d n) (rec' nt d (n+k))) (n:Nat):Rel k (Pb.on k) (nJ S F rec d n) (nJ S' F' rec' d (n+k)):=by
 unfold nJ
 exact ak (Fe H hF hr n) (fun b m _=>N8 H hF hr n F F' b m hF)
abbrev onB (k:Nat):Nat × List Pb→Nat × List Pb:=fun l=>(l.1,l.2.map (Pb.on k))
theorem He (H:Sh S S' k) {F F':Nat} (hF:F≤F') {rec rec':Nt→Nat→Nat→Out Pb} {d:Nat} (hr:∀ nt n,Rel k (Pb.on k) (rec nt d n) (rec' nt d (n+k))) (n:Nat):Rel k (onB k) (jA S rec d n) (jA S' rec' d (n+k)):=by
 unfold jA
 rw [H.colon]
 refine ak (g:=List.map (Pb.on k)) (bu rfl (fun _=>aV rfl rfl) (fun _=>?_)) (fun l m _=>?_)
 ·rw [Nat.add_right_comm]
  exact ak (hr .sig (n+1)) (fun c m _=>aV rfl rfl)
 ·refine ak (dE H _ m) (fun u m2 _=>?_)
  exact ak (hr .str m2) (fun c m3 _=>aV (by simp [onB]) rfl)
theorem Ak (H:Sh S S' k) {F F':Nat} (hF:F≤F') {rec rec':Nt→Nat→Nat→Out Pb} {d:Nat} (hr:∀ nt n,Rel k (Pb.on k) (rec nt d n) (rec' nt d (n+k))) (fr n:Nat):Rel k (Pb.on k) (dh S rec d fr n) (dh S' rec' d (fr+k) (n+k)):=by
 unfold dh
 refine ak (fU H [7] n) (fun x m _=>?_)
 exact ak (He H hF hr m) (fun l m2 _=>aV (by simp [aX,tX,onB]) rfl)
theorem Fz (H:Sh S S' k) {F F':Nat} (hF:F≤F') {rec rec':Nt→Nat→Nat→Out Pb} {d:Nat} (hr:∀ nt n,Rel k (Pb.on k) (rec nt d n) (rec' nt d (n+k))) (fr n:Nat):Rel k (Pb.on k) (ed S rec d fr n) (ed S' rec' d (fr+k) (n+k)):=by
 unfold ed
 refine ak (fU H [7] n) (fun x m _=>?_)
 refine ak (dE H _ m) (fun u m2 _=>?_)
 refine ak (fU H [7] m2) (fun y m3 _=>?_)
 refine ak (dE H _ m3) (fun u m4 _=>?_)
 refine ak (hr .sig m4) (fun c m5 _=>?_)
 refine ak (dE H _ m5) (fun u m6 _=>?_)
 exact ak (He H hF hr m6) (fun l m7 _=>aV (by simp [aX,tX,onB]) rfl)
theorem PM (H:Sh S S' k) {F F':Nat} (hF:F≤F') {rec rec':Nt→Nat→Nat→Out Pb} {d:Nat} (hr:∀ nt n,Rel k (Pb.on k) (rec nt d n) (rec' nt d (n+k))):∀ (f f':Nat) (acc:List Pb) (n:Nat),f≤f'→Rel k (List.map (Pb.on k)) (oW S F rec d f acc n) (oW S' F' rec' d f' (acc.map (Pb.on k)) (n+k)):=by
 intro f
 induction f with
 | zero=>intro f' acc n _ h; exact absurd rfl h
 | succ f ih =>
  intro f' acc n hf
  obtain ⟨q,rfl⟩:∃ q,f'=q+1:=⟨f' - 1,by omega⟩
  unfold oW
  refine bu (H.begins _ n) (fun _=>?_) (fun _=>aV rfl rfl)
  ·refine ak (kQ H hF hr n) (fun b m _=>?_)
   have:=ih q (acc++[b]) m (by omega)
   simpa using this
theorem Cb (H:Sh S S' k) {F F':Nat} (hF:F≤F') {rec rec':Nt→Nat→Nat→Out Pb} {d:Nat} (hr:∀ nt n,Rel k (Pb.on k) (rec nt d n) (rec' nt d (n+k))) (n:Nat):Rel k (Pb.on k) (dm S F rec d n) (dm S' F' rec' d (n+k)):=by
 unfold dm
 refine ak (wU H n) (fun x m _=>?_)
 refine ak (kQ H hF hr m) (fun b m2 _=>?_)
 refine ak (PM H hF hr F F' [b] m2 hF) (fun l m3 _=>?_)
 refine ak (dE H _ m3) (fun u m4 _=>?_)
 exact ak (hr .exp m4) (fun c m5 _=>aV (by simp [aX,Nat.add_right_comm]) (by omega))
theorem Np (H:Sh S S' k) {F F':Nat} (hF:F≤F') {rec rec':Nt→Nat→Nat→Out Pb} {d:Nat} (hr:∀ nt n,Rel k (Pb.on k) (rec nt d n) (rec' nt d (n+k))) (fr a n:Nat):Rel k (Pb.on k) (iF S F rec d fr a n) (iF S' F' rec' d (fr+k) a (n+k)):=by
 unfold iF
 refine ak (uk H hF hr a n) (fun x m _=>?_)
 refine ak (dE H _ m) (fun u m2 _=>?_)
 refine ak (uk H hF hr a m2) (fun x m3 _=>?_)
 exact ak (dE H _ m3) (fun u m4 _=>aV (by simp [aX,Nat.add_right_comm]) (by omega))
theorem TF (H:Sh S S' k) {F F':Nat} (hF:F≤F') {rec rec':Nt→Nat→Nat→Out Pb} {d:Nat} (hr:∀ nt n,Rel k (Pb.on k) (rec nt d n) (rec' nt d (n+k))) (a n:Nat):Rel k (Pb.on k) (nR S F rec d a n) (nR S' F' rec' d a (n+k)):=by
 unfold nR
 rw [Nat.add_right_comm]
 refine bu (H.is n _) (fun _=>?_) (fun _=>bu (H.is n _) (fun _=>?_) (fun _=>bu (H.is n _) (fun _=>?_) (fun _=>bu (H.is n _) (fun _=>?_) (fun _=>bu (H.is n _) (fun _=>?_) (fun _=>bu (H.is n _) (fun _=>?_) (fun _=>bu (H.is n _) (fun _=>?_) (fun _=>bu (H.is n _) (fun _=>?_) (fun _=>?_))))))))
 ·refine ak (hr .pat (n+1)) (fun p m _=>?_)
  refine ak (dE H _ m) (fun u m2 _=>?_)
  exact ak (hr .exp m2) (fun c m3 _=>aV (by simp [aX,Nat.add_right_comm]) (by omega))
 ·exact ak (nz H hF _ (fun n=>Cb H hF hr n) (n+1)) (fun l m _=>aV (by simp [aX,Nat.add_right_comm]) (by omega))
 ·refine ak (pq H hF (n+1)) (fun x m _=>?_)
  refine ak (dE H _ m) (fun u m2 _=>?_)
  exact ak (hr .ty m2) (fun c m3 _=>aV (by simp [aX,Nat.add_right_comm]) (by omega))
 ·exact sV H hF hr n (n+1)
 ·exact Ak H hF hr n (n+1)
 ·refine ak (fU H [7] (n+1)) (fun x m _=>?_)
  refine ak (dE H _ m) (fun u m2 _=>?_)
  exact ak (hr .sig m2) (fun c m3 _=>aV (by simp [aX,Nat.add_right_comm]) (by omega))
 ·exact Fz H hF hr n (n+1)
 ·exact ak (pX H [7] (n+1)) (fun p m _=>aV (by simp [aX,Nat.add_right_comm]) (by omega))
 ·exact Np H hF hr n a (n+1)
theorem LC (H:Sh S S' k):∀ (f f':Nat),f≤f'→∀ nt d n,Rel k (Pb.on k) (parts S f nt d n) (parts S' f' nt d (n+k)):=by
 intro f
 induction f with
 | zero=>intro f' _ nt d n h; exact absurd rfl h
 | succ f ih =>
  intro f' hf nt d n
  obtain ⟨q,rfl⟩:∃ q,f'=q+1:=⟨f' - 1,by omega⟩
  unfold parts
  refine bu rfl (fun _=>fun _=>rfl) (fun _=>?_)
  have hq:f≤q:=by omega
  have hr:=fun nt n=>ih q hq nt (d+1) n
  cases nt with
  | exp=>exact TC H hq hr n
  | pat=>exact Tz H hq hr n
  | ty=>exact V7 H hq hr n
  | sig=>exact Tu H hq hr n
  | str=>exact TG H hq hr n
  | dec a=>exact TF H hq hr a n
end
mutual
theorem Eg:(b:Pb)→b.on 0=b
 | .mk a m f t ns ks=>by
  have h:=yM ks
  simp only [Pb.on,h]
  simp
theorem yM:(l:List Pb)→onL 0 l=l
 | []=>rfl
 | b :: r=>by
  have h1:=Eg b
  have h2:=yM r
  simp only [onL,h1,h2]
end
theorem LQ {o:Out Pb}:o.on 0 (Pb.on 0)=o:=by
 cases o <;> simp [Out.on,Eg]
theorem MF {S S':Src} {k:Nat} (H:Sh S S' 0):Rel 0 (Pb.on 0) (jG S) (jG S'):=by
 have hF:fuel S≤fuel S':=by have:=H.len; unfold fuel; omega
 unfold jG jm
 exact ak (Aw H hF (fun nt n=>LC H (fuel S) (fuel S') hF nt 0 n) 2 0) (fun l m _=>aV (by simp [aX]) (by omega))
theorem Bv {S S':Src} (H:Sh S S' 0) (o:Out Pb):fA S' o=fA S o:=by
 unfold fA
 cases o with
 | ok b n =>
  simp only [Out.bind]
  have:=H.kd n
  rw [Nat.add_zero] at this
  rw [this]
 | form n=>rfl
 | deep n=>rfl
 | dry=>rfl
theorem Gt (c:UInt8) (hc:bD c=true) (a:Nat) (R:List UInt8):kM a (c :: R)=kM (a+1) R:=by
 have e1:bf (c :: R)=(1,az (aU bD) () R+1):=by
  have:bf (c :: R)=(1,az (aU bD) () (c :: R)):=by unfold bf; simp [hc]
  rw [this]
  simp [az,aU,hc]
 rw [wW a (c :: R) (by simp),e1]
 simp only [List.drop_succ_cons]
 have:=Aq (a+1) R
 rw [show a+1+az (aU bD) () R=a+(az (aU bD) () R+1) by omega] at this
 rw [this]
 rfl
theorem Ti (R:List UInt8):bf (40 :: 42 :: 120 :: 42 :: 41 :: R)=(2,5):=by
 have hp:az nF (0,0) (40 :: 42 :: 120 :: 42 :: 41 :: R)=4:=by
  simp [az,nF,eqB]
 have e:bf (40 :: 42 :: 120 :: 42 :: 41 :: R)=eU (40 :: 42 :: 120 :: 42 :: 41 :: R):=rfl
 rw [e]
 unfold eU
 simp only [hp,List.length_cons]
 have:(4 == R.length+1+1+1+1+1)=false:=by rw [beq_eq_false_iff_ne]; omega
 rw [this]; rfl
theorem IA (a:Nat) (R:List UInt8):kM a (40 :: 42 :: 120 :: 42 :: 41 :: R)=kM (a+5) R:=by
 rw [wW a _ (by simp),Ti]
 simp only [List.drop_succ_cons,List.drop_zero]
 rfl
inductive oG:List UInt8→Prop
 | nil:oG []
 | blank (c:UInt8) (hc:bD c=true) {l:List UInt8} (h:oG l):oG (c :: l)
 | note {l:List UInt8} (h:oG l):oG (40 :: 42 :: 120 :: 42 :: 41 :: l)
theorem JB {M:List UInt8} (h:oG M):∀ (a:Nat) (R:List UInt8),kM a (M++R)=kM (a+M.length) R:=by
 induction h with
 | nil=>intro a R; rfl
 | blank c hc h ih =>
  intro a R
  rw [List.cons_append,Gt c hc,ih]
  simp only [List.length_cons]
  congr 1; omega
 | note h ih =>
  intro a R
  simp only [List.cons_append]
  rw [IA,ih]
  simp only [List.length_cons]
  congr 1; omega
theorem oG.snoc_blank {M:List UInt8} (h:oG M) (c:UInt8) (hc:bD c=true):oG (M++[c]):=by
 induction h with
 | nil=>exact .blank c hc .nil
 | blank d hd h ih=>exact .blank d hd ih
 | note h ih=>exact .note ih
theorem oG.snoc_note {M:List UInt8} (h:oG M):oG (M++[40,42,120,42,41]):=by
 induction h with
 | nil=>exact .note .nil
 | blank d hd h ih=>exact .blank d hd ih
 | note h ih=>exact .note ih
def onT (K:Nat) (t:Tok):Tok:=⟨t.k,t.a+K,t.e+K⟩
theorem MM (K:Nat):∀ (n a:Nat) (l:List UInt8),dB n (a+K) l=(dB n a l).map (onT K):=by
 intro n
 induction n with
 | zero=>intro a l; rfl
 | succ n ih =>
  intro a l
  unfold dB
  cases l.isEmpty
  ·simp only [cond_false,List.map_cons]
   rw [show a+K+(bf l).2=(a+(bf l).2)+K by omega,ih]
   rfl
  ·rfl
theorem PZ (K:Nat) (l:List Tok):dO gB (l.map (onT K))=(dO gB l).map (onT K):=by
 induction l with
 | nil=>rfl
 | cons x r ih =>
  have hs:gB (onT K x).k=gB x.k:=rfl
  simp only [List.map_cons,dO,hs,ih]
  cases gB x.k <;> rfl
theorem FV (s t:ByteArray) (M:List UInt8) (hM:oG M) (ht:t.data.toList=M++s.data.toList):aN t=(aN s).map (onT M.length)∧t.size=s.size+M.length:=by
 have hsz:t.size=s.size+M.length:=by rw [← aW,ht,List.length_append,aW]; omega
 refine ⟨?_,hsz⟩
 have w:∀ u:ByteArray,kJ u=kM 0 u.data.toList:=fun u=>by unfold kJ kM; rw [aW]
 rw [iy,iy,w,w,ht,JB hM,Nat.zero_add,List.map_append,List.map_singleton]
 have e:kM M.length s.data.toList=(kM 0 s.data.toList).map (onT M.length):=by
  unfold kM
  have:=MM M.length s.data.toList.length 0 s.data.toList
  rw [Nat.zero_add] at this
  rw [this,PZ]
 rw [e,hsz]
 simp [onT]
theorem qi {S S':Src} (H:Sh S S' 0) (g:S.Good) (ht:S.ts=aN S.s):fA S' (jG S')=fA S (jG S):=by
 have h1:=MF (k:=0) H (DV S ht g)
 rw [h1,LQ]
 exact Bv H _
namespace Inn
def Fin (S:Src) (k n:Nat) {α:Type}:Out α→Prop
 | .ok _ m=>n+k≤m∧m < S.ts.length
 | .form m=>m < S.ts.length
 | .deep m=>m < S.ts.length
 | .dry=>False
theorem Fin.at {S:Src} {a b n m:Nat} {α:Type} {o:Out α} (h:Fin S a m o) (hb:n+b≤m+a):Fin S b n o:=by
 cases o with
 | ok x k=>exact ⟨by have:=h.1; omega,h.2⟩
 | form k=>exact h
 | deep k=>exact h
 | dry=>exact h
theorem Fin.le {S:Src} {a b n:Nat} {α:Type} {o:Out α} (h:Fin S a n o) (hb:b≤a):Fin S b n o:=h.at (by omega)
theorem ah {S:Src} {a b c n:Nat} {α β:Type} {o:Out α} {f:α→Nat→Out β} (h:Fin S a n o) (hc:c≤a+b) (hf:∀ x m,n+a≤m→m < S.ts.length→Fin S b m (f x m)):Fin S c n (o.bind f):=by
 cases o with
 | ok x m=>exact (hf x m h.1 h.2).at (by have:n+a≤m:=h.1; omega)
 | form m=>exact h
 | deep m=>exact h
 | dry=>exact h
theorem aB {S:Src} {k n m:Nat} {α:Type} {x:α} (h:n+k≤m) (hm:m < S.ts.length):Fin S k n (.ok x m):=⟨h,hm⟩
theorem aG {S:Src} {k n:Nat} {α:Type} {c:Bool} {a b:Out α} (ha:c=true→Fin S k n a) (hb:c=false→Fin S k n b):Fin S k n (bif c then a else b):=by
 cases c
 ·exact hb rfl
 ·exact ha rfl
section
variable {S:Src} (g:S.Good)
include g
theorem aP {t:List UInt8} (ht:t≠[]) {n:Nat} (hn:n < S.ts.length):Fin S 1 n (S.need t n):=by
 unfold Src.need
 exact aG (fun h=>aB (Nat.le_refl _) (g.more hn ht h)) (fun _=>by show _ < S.ts.length; omega)
theorem bF {ks:List Int} (hz:ks.contains 0=false) {n:Nat} (hn:n < S.ts.length):Fin S 1 n (S.take ks n):=by
 unfold Src.take
 refine aG (fun h=>aB (Nat.le_refl _) (g.moreK hn (fun e=>?_))) (fun _=>by show _ < S.ts.length; omega)
 rw [e,hz] at h; cases h
theorem tV {ks:List Int} (hz:ks.contains 0=false):∀ (f:Nat) (acc:List Nat) (n:Nat),n < S.ts.length→S.ts.length < f+n+1→Fin S 0 n (S.pathL ks f acc n):=by
 intro f
 induction f with
 | zero=>intro acc n hn hf; omega
 | succ f ih =>
  intro acc n hn hf
  unfold Src.pathL
  refine aG (fun h=>?_) (fun _=>aB (Nat.le_refl _) hn)
  simp only [Bool.and_eq_true] at h
  have h1:=g.more hn (by simp) h.2
  refine (ah (bF g hz h1) (c:=1) (b:=0) (by omega) (fun x m hm hl=>ih _ m hl (by omega))).at (by omega)
theorem gJ {ks:List Int} (hz:ks.contains 0=false) {n:Nat} (hn:n < S.ts.length):Fin S 1 n (S.path ks n):=by
 unfold Src.path
 exact ah (bF g hz hn) (by omega) (fun x m hm hl=>tV g hz _ _ m hl (by omega))
theorem fG {n:Nat} (hn:n < S.ts.length):Fin S 1 n (S.typePath n):=by
 unfold Src.typePath
 exact ah (gJ g (by decide) hn) (b:=0) (by omega) (fun x m hm hl=>aG (fun _=>aB (by omega) hl) (fun _=>by show _ < S.ts.length; omega))
theorem jR {n:Nat} (hn:n < S.ts.length):Fin S 1 n (S.value n):=by
 unfold Src.value
 refine aG (fun h=>?_) (fun _=>bF g (by decide) hn)
 exact (bF g (by decide) (g.more hn (by simp) h)).at (by omega)
theorem wV {mark:List UInt8} (hm:mark≠[]) {read:Nat→Out Pb} (hr:∀ k,k < S.ts.length→Fin S 1 k (read k)):∀ (f:Nat) (acc:List Pb) (n:Nat),n < S.ts.length→S.ts.length < f+n+1→Fin S 0 n (lI S mark read f acc n):=by
 intro f
 induction f with
 | zero=>intro acc n hn hf; omega
 | succ f ih =>
  intro acc n hn hf
  unfold lI
  refine aG (fun h=>?_) (fun _=>aB (Nat.le_refl _) hn)
  have h1:=g.more hn hm h
  exact (ah (hr _ h1) (c:=1) (b:=0) (by omega) (fun x m hm hl=>ih _ m hl (by omega))).at (by omega)
theorem fM {F:Nat} (hF:S.ts.length≤F) {mark:List UInt8} (hm:mark≠[]) {read:Nat→Out Pb} (hr:∀ k,k < S.ts.length→Fin S 1 k (read k)) {n:Nat} (hn:n < S.ts.length):Fin S 1 n (gV S F mark read n):=by
 unfold gV
 exact ah (hr n hn) (by omega) (fun x m hm2 hl=>wV g hm hr _ _ m hl (by omega))
section
variable {F:Nat} (hF:S.ts.length≤F) {rec:Nt→Nat→Nat→Out Pb} {d:Nat} (hrec:∀ nt k,k < S.ts.length→S.may nt k→Fin S 1 k (rec nt d k))
include hF hrec
theorem lV {n:Nat} (hn:n < S.ts.length):Fin S 1 n (dH S F rec d n):=by
 unfold dH
 refine aG (fun h=>aB (by omega) (g.moreK hn (by have:=beq_iff_eq.1 h; omega))) (fun _=>aG (fun h=>?_) (fun _=>?_))
 ·have h1:=g.more hn (by simp) h
  refine (ah (fM g hF (by simp) (fun k hk=>hrec .ty k hk trivial) h1) (c:=0) (b:=0) (by omega) (fun l m hm hl=>?_)).at (by omega)
  refine (ah (aP g (by simp) hl) (b:=0) (by omega) (fun u m2 hm2 hl2=>?_))
  unfold qy
  split
  ·exact aB (by omega) hl2
  ·exact ah (fG g hl2) (b:=0) (by omega) (fun p m3 oC hl3=>aB (by omega) hl3)
 ·exact ah (fG g hn) (b:=0) (by omega) (fun p m3 oC hl3=>aB (by omega) hl3)
theorem og (n:Nat):∀ (f:Nat) (b:Pb) (m:Nat),m < S.ts.length→S.ts.length < f+m+1→Fin S 0 m (dJ S n f b m):=by
 have _:=hF
 have _:=hrec
 intro f
 induction f with
 | zero=>intro b m hn hf; omega
 | succ f ih =>
  intro b m hn hf
  unfold dJ
  refine aG (fun h=>?_) (fun _=>aB (Nat.le_refl _) hn)
  exact ah (fG g hn) (b:=0) (by omega) (fun p m1 hm hl=>ih _ m1 hl (by omega))
theorem nM {n:Nat} (hn:n < S.ts.length):Fin S 1 n (dA S F rec d n):=by
 unfold dA
 exact ah (lV g hF hrec hn) (b:=0) (by omega) (fun b m hm hl=>og g hF hrec n _ _ m hl (by omega))
theorem oq {n:Nat} (hn:n < S.ts.length):Fin S 1 n (dX S F rec d n):=by
 unfold dX
 exact ah (fM g hF (by simp) (fun k hk=>nM g hF hrec hk) hn) (b:=0) (by omega) (fun l m hm hl=>aB (by omega) hl)
theorem Az {n:Nat} (hn:n < S.ts.length):Fin S 1 n (tyO S F rec d n):=by
 unfold tyO
 refine ah (oq g hF hrec hn) (b:=0) (by omega) (fun b m hm hl=>aG (fun h=>?_) (fun _=>aB (by omega) hl))
 exact (ah (hrec .ty _ (g.more hl (by simp) h) trivial) (b:=0) (c:=0) (by omega) (fun c m2 hm2 hl2=>aB (by omega) hl2)).at (by omega)
omit hrec in
theorem rG (fr:Nat) {member:Nat→Out Pb} (hm:∀ k,k < S.ts.length→Fin S 1 k (member k)) {n:Nat} (hn:n < S.ts.length):Fin S 1 n (iE S F fr member n):=by
 unfold iE
 refine aG (fun h=>aB (by omega) (g.more hn (by simp) h)) (fun _=>?_)
 refine ah (fM g hF (by simp) hm hn) (b:=0) (by omega) (fun l m hm hl=>?_)
 exact ah (aP g (by simp) hl) (b:=0) (by omega) (fun u m2 hm2 hl2=>aB (by omega) hl2)
omit hrec in
theorem kY (named:Int) {member:Nat→Out Pb} (hm:∀ k,k < S.ts.length→Fin S 1 k (member k)) {n:Nat} (hn:n < S.ts.length):Fin S 1 n (plainO S F named member n):=by
 unfold plainO
 refine aG (fun h=>aB (by omega) (g.moreK hn (by have:=beq_iff_eq.1 h; omega))) (fun _=>aG (fun h=>aB (by omega) (g.moreK hn (by have:=beq_iff_eq.1 h; omega))) (fun _=>aG (fun h=>?_) (fun _=>?_)))
 ·exact (rG g hF n hm (g.more hn (by simp) h)).at (by omega)
 ·exact ah (jR g hn) (b:=0) (by omega) (fun p m3 oC hl3=>aB (by omega) hl3)
theorem dS {n:Nat} (hn:n < S.ts.length):Fin S 1 n (bV S F rec d n):=by
 unfold bV
 refine aG (fun h=>aB (by omega) (g.more hn (by simp) h)) (fun _=>aG (fun h=>?_) (fun _=>kY g hF 39 (fun k hk=>hrec .pat k hk trivial) hn))
 exact ah (gJ g (by decide) hn) (b:=0) (by omega) (fun p m3 oC hl3=>aB (by omega) hl3)
theorem xX {n:Nat} (hn:n < S.ts.length):Fin S 1 n (ou S F rec d n):=by
 unfold ou
 refine aG (fun h=>?_) (fun _=>aG (fun h=>?_) (fun _=>dS g hF hrec hn))
 ·simp only [Bool.and_eq_true,beq_iff_eq] at h
  have h1:=g.moreK hn (by omega)
  have h2:=g.more h1 (by simp) h.2
  exact (ah (hrec .pat _ h2 trivial) (b:=0) (c:=0) (by omega) (fun c m2 hm2 hl2=>aB (by omega) hl2)).at (by omega)
 ·refine ah (gJ g (by decide) hn) (b:=0) (by omega) (fun p m hm hl=>aG (fun _=>?_) (fun _=>aB (by omega) hl))
  exact ah (dS g hF hrec hl) (b:=0) (by omega) (fun p m3 oC hl3=>aB (by omega) hl3)
theorem uf (a:Nat):∀ (f:Nat) (acc:List Pb) (n:Nat),n < S.ts.length→S.ts.length < f+n+1→Fin S 0 n (jI S rec d a f acc n):=by
 have _:=hF
 intro f
 induction f with
 | zero=>intro acc n hn hf; omega
 | succ f ih =>
  intro acc n hn hf
  unfold jI
  refine aG (fun h=>?_) (fun _=>aG (fun h=>?_) (fun _=>aB (Nat.le_refl _) hn))
  ·exact (ih acc (n+1) (g.more hn (by simp) h) (by omega)).at (by omega)
  ·exact ah (hrec (.dec a) n hn h) (b:=0) (by omega) (fun x m hm hl=>ih _ m hl (by omega))
theorem jK (a:Nat) {n:Nat} (hn:n < S.ts.length):Fin S 0 n (iw S F rec d a n):=uf g hF hrec a _ _ n hn (by omega)
theorem iM (a:Nat) {n:Nat} (hn:n < S.ts.length):Fin S 0 n (fE S F rec d a n):=by
 unfold fE
 exact ah (jK g hF hrec a hn) (b:=0) (by omega) (fun l m hm hl=>aB (by omega) hl)
theorem mG {n:Nat} (hn:n < S.ts.length):Fin S 1 n (iJ S F rec d n):=by
 unfold iJ
 refine aG (fun h=>?_) (fun _=>aG (fun h=>?_) (fun _=>kY g hF 28 (fun k hk=>hrec .exp k hk trivial) hn))
 ·exact ah (gJ g (by decide) hn) (b:=0) (by omega) (fun p m hm hl=>aG (fun _=>aB (by omega) hl) (fun _=>aB (by omega) hl))
 ·have h1:=g.more hn (by simp) h
  refine (ah (iM g hF hrec 0 h1) (b:=0) (c:=0) (by omega) (fun ds m hm hl=>?_)).at (by omega)
  refine ah (aP g (by simp) hl) (b:=0) (by omega) (fun u m2 hm2 hl2=>?_)
  refine ah (hrec .exp _ hl2 trivial) (b:=0) (by omega) (fun e m3 oC hl3=>?_)
  exact ah (aP g (by simp) hl3) (b:=0) (by omega) (fun u m4 hm4 hl4=>aB (by omega) hl4)
theorem uw:∀ (f:Nat) (acc:List Pb) (n:Nat),n < S.ts.length→S.ts.length < f+n+1→Fin S 0 n (je S F rec d f acc n):=by
 intro f
 induction f with
 | zero=>intro acc n hn hf; omega
 | succ f ih =>
  intro acc n hn hf
  unfold je
  refine aG (fun h=>?_) (fun _=>aB (Nat.le_refl _) hn)
  exact ah (mG g hF hrec hn) (b:=0) (by omega) (fun x m hm hl=>ih _ m hl (by omega))
theorem mi {n:Nat} (hn:n < S.ts.length):Fin S 1 n (jH S F rec d n):=by
 unfold jH
 refine ah (mG g hF hrec hn) (b:=0) (by omega) (fun b m hm hl=>?_)
 exact ah (uw g hF hrec _ _ m hl (by omega)) (b:=0) (by omega) (fun l m2 hm2 hl2=>aB (by omega) hl2)
theorem ry:∀ (f:Nat) (sg:List Nat) (acc:List Pb) (n:Nat),n < S.ts.length→S.ts.length < f+n+1→Fin S 0 n (iY S F rec d f sg acc n):=by
 intro f
 induction f with
 | zero=>intro sg acc n hn hf; omega
 | succ f ih =>
  intro sg acc n hn hf
  unfold iY
  refine aG (fun h=>?_) (fun _=>aB (Nat.le_refl _) hn)
  refine ah (bF g (by decide) hn) (b:=0) (by omega) (fun x m hm hl=>?_)
  exact ah (mi g hF hrec hl) (b:=0) (by omega) (fun x m2 hm2 hl2=>ih _ _ m2 hl2 (by omega))
theorem rH {n:Nat} (hn:n < S.ts.length):Fin S 1 n (gK S F rec d n):=by
 unfold gK
 refine ah (mi g hF hrec hn) (b:=0) (by omega) (fun b m hm hl=>?_)
 exact ah (ry g hF hrec _ _ _ m hl (by omega)) (b:=0) (by omega) (fun l m2 hm2 hl2=>aB (by omega) hl2)
theorem ku (k:Int) (fr:Nat) {n:Nat} (hn:n < S.ts.length):Fin S 1 n (fF S rec d k fr n):=by
 have _:=hF
 unfold fF
 refine ah (hrec .pat _ hn trivial) (b:=0) (by omega) (fun p m hm hl=>?_)
 refine ah (aP g (by simp) hl) (b:=0) (by omega) (fun u m2 hm2 hl2=>?_)
 exact ah (hrec .exp _ hl2 trivial) (b:=0) (by omega) (fun e m3 oC hl3=>aB (by omega) hl3)
theorem wE {n:Nat} (hn:n < S.ts.length):Fin S 1 n (yl S rec d n):=ku g hF hrec 33 n hn
theorem xE {n:Nat} (hn:n < S.ts.length):Fin S 1 n (ny S F rec d n):=by
 unfold ny
 refine aG (fun h=>?_) (fun _=>aG (fun h=>?_) (fun _=>aG (fun h=>?_) (fun _=>rH g hF hrec hn)))
 ·have h1:=g.more hn (by simp) h
  refine (ah (hrec .exp _ h1 trivial) (b:=0) (c:=0) (by omega) (fun a m hm hl=>?_)).at (by omega)
  refine ah (aP g (by simp) hl) (b:=0) (by omega) (fun u m2 hm2 hl2=>?_)
  refine ah (hrec .exp _ hl2 trivial) (b:=0) (by omega) (fun a m3 oC hl3=>?_)
  refine ah (aP g (by simp) hl3) (b:=0) (by omega) (fun u m4 hm4 hl4=>?_)
  exact ah (hrec .exp _ hl4 trivial) (b:=0) (by omega) (fun a m5 vC hl5=>aB (by omega) hl5)
 ·have h1:=g.more hn (by simp) h
  refine (ah (hrec .exp _ h1 trivial) (b:=0) (c:=0) (by omega) (fun a m hm hl=>?_)).at (by omega)
  refine ah (aP g (by simp) hl) (b:=0) (by omega) (fun u m2 hm2 hl2=>?_)
  exact ah (fM g hF (by simp) (fun k hk=>wE g hF hrec hk) hl2) (b:=0) (by omega) (fun a m3 oC hl3=>aB (by omega) hl3)
 ·exact (ku g hF hrec 34 n (g.more hn (by simp) h)).at (by omega)
omit hF hrec in
theorem uz:∀ (f:Nat) (n:Nat),n < S.ts.length→S.ts.length < f+n+1→Fin S 0 n (jB S f n):=by
 intro f
 induction f with
 | zero=>intro n hn hf; omega
 | succ f ih =>
  intro n hn hf
  unfold jB
  refine aG (fun h=>?_) (fun _=>aB (Nat.le_refl _) hn)
  exact (ah (bF g (by decide) (g.more hn (by simp) h)) (b:=0) (c:=0) (by omega) (fun x m hm hl=>ih m hl (by omega))).at (by omega)
omit hrec in
theorem fZ {n:Nat} (hn:n < S.ts.length):Fin S 1 n (bW S F n):=by
 unfold bW
 refine aG (fun h=>?_) (fun _=>aG (fun h=>?_) (fun _=>bF g (by decide) hn))
 ·exact (bF g (by decide) (g.moreK hn (by have:=beq_iff_eq.1 h; omega))).at (by omega)
 ·refine (ah (bF g (by decide) (g.more hn (by simp) h)) (b:=0) (c:=0) (by omega) (fun x m hm hl=>?_)).at (by omega)
  refine ah (uz g _ m hl (by omega)) (b:=0) (by omega) (fun u m2 hm2 hl2=>?_)
  refine ah (aP g (by simp) hl2) (b:=0) (by omega) (fun u m3 oC hl3=>?_)
  exact (bF g (by decide) hl3).le (by omega)
theorem vW {n:Nat} (hn:n < S.ts.length):Fin S 1 n (lZ S rec d n):=by
 have _:=hF
 unfold lZ
 refine ah (bF g (by decide) hn) (b:=0) (by omega) (fun x m hm hl=>aG (fun h=>?_) (fun _=>aB (by omega) hl))
 exact (ah (hrec .ty _ (g.more hl (by simp) h) trivial) (b:=0) (c:=0) (by omega) (fun c m2 hm2 hl2=>aB (by omega) hl2)).at (by omega)
theorem qU {n:Nat} (hn:n < S.ts.length):Fin S 1 n (gy S F rec d n):=by
 unfold gy
 refine ah (fZ g hF hn) (b:=0) (by omega) (fun x m hm hl=>?_)
 refine ah (aP g (by simp) hl) (b:=0) (by omega) (fun u m2 hm2 hl2=>?_)
 exact ah (fM g hF (by simp) (fun k hk=>vW g hF hrec hk) hl2) (b:=0) (by omega) (fun a m3 oC hl3=>aB (by omega) hl3)
theorem iT (fr:Nat) {n:Nat} (hn:n < S.ts.length):Fin S 1 n (bZ S F rec d fr n):=by
 unfold bZ
 exact ah (fM g hF (by simp) (fun k hk=>qU g hF hrec hk) hn) (b:=0) (by omega) (fun a m3 oC hl3=>aB (by omega) hl3)
theorem ui {n:Nat} (hn:n < S.ts.length):Fin S 1 n (jF S F rec d n):=by
 unfold jF
 refine aG (fun h=>?_) (fun _=>aG (fun h=>?_) (fun _=>aG (fun h=>?_) (fun _=>aG (fun h=>?_) (fun _=>?_))))
 ·refine (ah (jR g (g.more hn (by simp) h)) (b:=0) (c:=0) (by omega) (fun x m hm hl=>?_)).at (by omega)
  refine ah (aP g (by simp) hl) (b:=0) (by omega) (fun u m2 hm2 hl2=>?_)
  exact ah (hrec .ty _ hl2 trivial) (b:=0) (by omega) (fun a m5 vC hl5=>aB (by omega) hl5)
 ·refine (ah (fZ g hF (g.more hn (by simp) h)) (b:=0) (c:=0) (by omega) (fun x m hm hl=>aG (fun h=>?_) (fun _=>aB (by omega) hl))).at (by omega)
  exact (ah (hrec .ty _ (g.more hl (by simp) h) trivial) (b:=0) (c:=0) (by omega) (fun c m2 hm2 hl2=>aB (by omega) hl2)).at (by omega)
 ·exact (iT g hF hrec n (g.more hn (by simp) h)).at (by omega)
 ·refine (ah (bF g (by decide) (g.more hn (by simp) h)) (b:=0) (c:=0) (by omega) (fun x m hm hl=>?_)).at (by omega)
  refine ah (aP g (by simp) hl) (b:=0) (by omega) (fun u m2 hm2 hl2=>?_)
  exact ah (hrec .sig _ hl2 trivial) (b:=0) (by omega) (fun a m5 vC hl5=>aB (by omega) hl5)
 ·refine ah (aP g (by simp) hn) (b:=0) (by omega) (fun u m2 hm2 hl2=>?_)
  exact ah (hrec .sig _ hl2 trivial) (b:=0) (by omega) (fun a m5 vC hl5=>aB (by omega) hl5)
theorem qY:∀ (f:Nat) (acc:List Pb) (n:Nat),n < S.ts.length→S.ts.length < f+n+1→Fin S 0 n (iD S F rec d f acc n):=by
 intro f
 induction f with
 | zero=>intro acc n hn hf; omega
 | succ f ih =>
  intro acc n hn hf
  unfold iD
  refine aG (fun h=>aB (by omega) (g.more hn (by simp) h)) (fun _=>aG (fun h=>?_) (fun _=>?_))
  ·exact (ih acc (n+1) (g.more hn (by simp) h) (by omega)).at (by omega)
  ·exact ah (ui g hF hrec hn) (b:=0) (by omega) (fun x m hm hl=>ih _ m hl (by omega))
theorem nG {n:Nat} (hn:n < S.ts.length):Fin S 1 n (dZ S F rec d n):=by
 unfold dZ
 refine aG (fun h=>?_) (fun _=>?_)
 ·have h1:=g.more hn (by simp) h
  exact (ah (qY g hF hrec _ _ (n+1) h1 (by omega)) (b:=0) (c:=0) (by omega) (fun a m5 vC hl5=>aB (by omega) hl5)).at (by omega)
 ·exact ah (bF g (by decide) hn) (b:=0) (by omega) (fun a m5 vC hl5=>aB (by omega) hl5)
theorem qX (fr:Nat):∀ (f:Nat) (b:Pb) (n:Nat),n < S.ts.length→S.ts.length < f+n+1→Fin S 0 n (iQ S rec d fr f b n):=by
 have _:=hF
 intro f
 induction f with
 | zero=>intro b n hn hf; omega
 | succ f ih =>
  intro b n hn hf
  unfold iQ
  refine aG (fun h=>?_) (fun _=>aB (Nat.le_refl _) hn)
  have h1:=g.more hn (by simp) h
  refine (ah (aP g (by simp) h1) (b:=0) (c:=0) (by omega) (fun u m hm hl=>?_)).at (by omega)
  refine ah (fG g hl) (b:=0) (by omega) (fun p m2 hm2 hl2=>?_)
  refine ah (aP g (by simp) hl2) (b:=0) (by omega) (fun u m3 oC hl3=>?_)
  exact ah (hrec .ty _ hl3 trivial) (b:=0) (by omega) (fun c m4 hm4 hl4=>ih _ m4 hl4 (by omega))
theorem wX {n:Nat} (hn:n < S.ts.length):Fin S 1 n (nS S F rec d n):=by
 unfold nS
 exact ah (nG g hF hrec hn) (b:=0) (by omega) (fun b m hm hl=>qX g hF hrec n _ _ m hl (by omega))
theorem nZ {n:Nat} (hn:n < S.ts.length):Fin S 1 n (dY S F rec d n):=by
 unfold dY
 refine aG (fun h=>?_) (fun _=>aG (fun h=>?_) (fun _=>?_))
 ·refine (ah (jK g hF hrec 1 (g.more hn (by simp) h)) (b:=0) (c:=0) (by omega) (fun l m hm hl=>?_)).at (by omega)
  exact ah (aP g (by simp) hl) (b:=0) (by omega) (fun u m2 hm2 hl2=>aB (by omega) hl2)
 ·simp only [Bool.and_eq_true,beq_iff_eq] at h
  have h1:=g.moreK hn (by omega)
  have h2:=g.more h1 (by simp) h.2
  refine (ah (hrec .str _ h2 trivial) (b:=0) (c:=0) (by omega) (fun c m2 hm2 hl2=>?_)).at (by omega)
  exact ah (aP g (by simp) hl2) (b:=0) (by omega) (fun u m3 oC hl3=>aB (by omega) hl3)
 ·exact ah (gJ g (by decide) hn) (b:=0) (by omega) (fun p m hm hl=>aB (by omega) hl)
theorem uy (fr:Nat):∀ (f:Nat) (b:Pb) (n:Nat),n < S.ts.length→S.ts.length < f+n+1→Fin S 0 n (kE S rec d fr f b n):=by
 have _:=hF
 intro f
 induction f with
 | zero=>intro b n hn hf; omega
 | succ f ih =>
  intro b n hn hf
  unfold kE
  refine aG (fun _=>aB (Nat.le_refl _) hn) (fun h=>?_)
  have h2:=(iC g hn).2.2.1 (by simpa using h)
  have h1:=(iC g hn).1
  rw [h2] at h1
  exact (ah (hrec .sig _ h1 trivial) (b:=0) (c:=0) (by omega) (fun c m4 hm4 hl4=>ih _ m4 hl4 (by omega))).at (by omega)
theorem xI {n:Nat} (hn:n < S.ts.length):Fin S 1 n (nJ S F rec d n):=by
 unfold nJ
 exact ah (nZ g hF hrec hn) (b:=0) (by omega) (fun b m hm hl=>uy g hF hrec n _ _ m hl (by omega))
theorem mM {n:Nat} (hn:n < S.ts.length):Fin S 1 n (jA S rec d n):=by
 have _:=hF
 unfold jA
 refine ah (a:=0) (b:=1) (aG (fun _=>aB (Nat.le_refl _) hn) (fun h=>?_)) (by omega) (fun l m hm hl=>?_)
 ·have h2:=(iC g hn).2.2.1 (by simpa using h)
  have h1:=(iC g hn).1
  rw [h2] at h1
  exact (ah (hrec .sig _ h1 trivial) (b:=0) (c:=0) (by omega) (fun c m4 hm4 hl4=>aB (by omega) hl4)).at (by omega)
 ·refine ah (aP g (by simp) hl) (b:=0) (by omega) (fun u m2 hm2 hl2=>?_)
  exact ah (hrec .str _ hl2 trivial) (b:=0) (by omega) (fun c m4 hm4 hl4=>aB (by omega) hl4)
theorem lH (fr:Nat) {n:Nat} (hn:n < S.ts.length):Fin S 1 n (dh S rec d fr n):=by
 unfold dh
 refine ah (bF g (by decide) hn) (b:=0) (by omega) (fun x m hm hl=>?_)
 exact ah (mM g hF hrec hl) (b:=0) (by omega) (fun c m4 hm4 hl4=>aB (by omega) hl4)
theorem nO (fr:Nat) {n:Nat} (hn:n < S.ts.length):Fin S 1 n (ed S rec d fr n):=by
 unfold ed
 refine ah (bF g (by decide) hn) (b:=0) (by omega) (fun x m hm hl=>?_)
 refine ah (aP g (by simp) hl) (b:=0) (by omega) (fun u m2 hm2 hl2=>?_)
 refine ah (bF g (by decide) hl2) (b:=0) (by omega) (fun x m3 oC hl3=>?_)
 refine ah (aP g (by simp) hl3) (b:=0) (by omega) (fun u m4 hm4 hl4=>?_)
 refine ah (hrec .sig _ hl4 trivial) (b:=0) (by omega) (fun c m5 vC hl5=>?_)
 refine ah (aP g (by simp) hl5) (b:=0) (by omega) (fun u m6 hm6 Xt=>?_)
 exact ah (mM g hF hrec Xt) (b:=0) (by omega) (fun c m7 hm7 Xu=>aB (by omega) Xu)
theorem vX:∀ (f:Nat) (acc:List Pb) (n:Nat),n < S.ts.length→S.ts.length < f+n+1→Fin S 0 n (oW S F rec d f acc n):=by
 intro f
 induction f with
 | zero=>intro acc n hn hf; omega
 | succ f ih =>
  intro acc n hn hf
  unfold oW
  refine aG (fun h=>?_) (fun _=>aB (Nat.le_refl _) hn)
  exact ah (dS g hF hrec hn) (b:=0) (by omega) (fun x m hm hl=>ih _ m hl (by omega))
theorem lY {n:Nat} (hn:n < S.ts.length):Fin S 1 n (dm S F rec d n):=by
 unfold dm
 refine ah (jR g hn) (b:=0) (by omega) (fun x m hm hl=>?_)
 refine ah (dS g hF hrec hl) (b:=0) (by omega) (fun x m2 hm2 hl2=>?_)
 refine ah (vX g hF hrec _ _ m2 hl2 (by omega)) (b:=0) (by omega) (fun x m3 oC hl3=>?_)
 refine ah (aP g (by simp) hl3) (b:=0) (by omega) (fun u m4 hm4 hl4=>?_)
 exact ah (hrec .exp _ hl4 trivial) (b:=0) (by omega) (fun c m5 vC hl5=>aB (by omega) hl5)
theorem rE (fr a:Nat) {n:Nat} (hn:n < S.ts.length):Fin S 1 n (iF S F rec d fr a n):=by
 unfold iF
 refine ah (iM g hF hrec a hn) (b:=1) (by omega) (fun x m hm hl=>?_)
 refine ah (aP g (by simp) hl) (b:=0) (by omega) (fun u m2 hm2 hl2=>?_)
 refine ah (iM g hF hrec a hl2) (b:=0) (by omega) (fun x m3 oC hl3=>?_)
 exact ah (aP g (by simp) hl3) (b:=0) (by omega) (fun u m4 hm4 hl4=>aB (by omega) hl4)
theorem wR (a:Nat) {n:Nat} (hn1:n+1 < S.ts.length):Fin S 1 n (nR S F rec d a n):=by
 unfold nR
 refine aG (fun h=>?_) (fun _=>aG (fun h=>?_) (fun _=>aG (fun h=>?_) (fun _=>aG (fun h=>?_) (fun _=>aG (fun h=>?_) (fun _=>aG (fun h=>?_) (fun _=>aG (fun h=>?_) (fun _=>aG (fun h=>?_) (fun _=>?_))))))))
 ·refine (ah (hrec .pat _ hn1 trivial) (b:=0) (c:=0) (by omega) (fun x m hm hl=>?_)).at (by omega)
  refine ah (aP g (by simp) hl) (b:=0) (by omega) (fun u m2 hm2 hl2=>?_)
  exact ah (hrec .exp _ hl2 trivial) (b:=0) (by omega) (fun c m5 vC hl5=>aB (by omega) hl5)
 ·exact (ah (fM g hF (by simp) (fun k hk=>lY g hF hrec hk) hn1) (b:=0) (c:=0) (by omega) (fun a m3 oC hl3=>aB (by omega) hl3)).at (by omega)
 ·refine (ah (fZ g hF hn1) (b:=0) (c:=0) (by omega) (fun x m hm hl=>?_)).at (by omega)
  refine ah (aP g (by simp) hl) (b:=0) (by omega) (fun u m2 hm2 hl2=>?_)
  exact ah (hrec .ty _ hl2 trivial) (b:=0) (by omega) (fun c m5 vC hl5=>aB (by omega) hl5)
 ·exact (iT g hF hrec n hn1).at (by omega)
 ·exact (lH g hF hrec n hn1).at (by omega)
 ·refine (ah (bF g (by decide) hn1) (b:=0) (c:=0) (by omega) (fun x m hm hl=>?_)).at (by omega)
  refine ah (aP g (by simp) hl) (b:=0) (by omega) (fun u m2 hm2 hl2=>?_)
  exact ah (hrec .sig _ hl2 trivial) (b:=0) (by omega) (fun c m5 vC hl5=>aB (by omega) hl5)
 ·exact (nO g hF hrec n hn1).at (by omega)
 ·exact (ah (gJ g (by decide) hn1) (b:=0) (c:=0) (by omega) (fun c m5 vC hl5=>aB (by omega) hl5)).at (by omega)
 ·exact (rE g hF hrec n a hn1).at (by omega)
end
theorem uB:∀ (f:Nat) (nt:Nt) (d n:Nat),d≤256→n < S.ts.length→S.may nt n→S.ts.length+257≤f+d→Fin S 1 n (parts S f nt d n):=by
 intro f
 induction f with
 | zero=>intro nt d n hd hn _ hf; omega
 | succ f ih =>
  intro nt d n hd hn hmay hf
  unfold parts
  refine aG (fun _=>by show _ < S.ts.length; omega) (fun h=>?_)
  have h256:d≠256:=by simpa using h
  have hrec:∀ nt k,k < S.ts.length→S.may nt k→Fin S 1 k (parts S f nt (d+1) k):=fun nt k hk hm=>ih nt (d+1) k (by omega) hk hm (by omega)
  have hF:S.ts.length≤f:=by omega
  cases nt with
  | exp=>exact xE g hF hrec hn
  | pat=>exact xX g hF hrec hn
  | ty=>exact Az g hF hrec hn
  | sig=>exact wX g hF hrec hn
  | str=>exact xI g hF hrec hn
  | dec a=>exact wR g hF hrec a (lW g hn hmay)
theorem fileO_fin {F:Nat} (hF:S.ts.length+257≤F) {n:Nat} (hn:n < S.ts.length):Fin S 0 n (jm S F n):=by
 unfold jm
 exact ah (jK g (F:=F) (by omega) (rec:=parts S F) (d:=0) (fun nt k hk hm=>uB g F nt 0 k (by omega) hk hm (by omega)) 2 hn) (b:=0) (by omega) (fun l m hm hl=>aB (by omega) hl)
end
end Inn
end Go.Proofs.YtmpmfamiegpmgaaGreatDoor
