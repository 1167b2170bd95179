/-
  The plain parser goes the same way on tokens that stand further on.; A text with blanks and a note between its tokens has the same tokens: plain facts.; The plain parser goes the same way on tokens that stand further on: each part.; Bytes ahead that say nothing: the tokens behind them are the same, each so many bytes on.; Where a text is no part, the place is within: so much more than the same names outside say.
-/
import Derived.Test.YtmpmfamiegpmgaaGreatDoorGE
import Derived.Test.YtmpmfamiegpmgaaGreatDoorGK
import Derived.Test.YtmpmfamiegpmgaaGreatDoorGG
import Derived.Test.YtmpmfamiegpmgaaGreatDoorGY
import Derived.Test.YtmpmfamiegpmgaaGreatDoorGS
namespace Go.Proofs.YtmpmfamiegpmgaaGreatDoor
open Go.RowKit
set_option linter.unusedVariables false
set_option linter.unusedSimpArgs false
mutual
def Pb.on (k:Nat):Pb→Pb
 | .mk a m f t ns ks=>.mk a m (f+k) (t+k) (ns.map fun x=>x+k) (onL k ks)
def onL (k:Nat):List Pb→List Pb
 | []=>[]
 | b :: r=>b.on k :: onL k r
end
theorem QJ (k:Nat) (l:List Pb):onL k l=l.map (Pb.on k):=by
 induction l with
 | nil=>rfl
 | cons x r ih=>simp only [onL,List.map_cons,ih]
def Out.on {α:Type} (k:Nat) (g:α→α):Out α→Out α
 | .ok a n=>.ok (g a) (n+k)
 | .form n=>.form (n+k)
 | .deep n=>.deep (n+k)
 | .dry=>.dry
def Rel {α:Type} (k:Nat) (g:α→α) (o o':Out α):Prop:=o≠.dry→o'=o.on k g
theorem au {α β:Type} {k:Nat} {g:α→α} {h:β→β} {o o':Out α} {f f':α→Nat→Out β} (ho:Rel k g o o') (hf:∀ x n,o=.ok x n→Rel k h (f x n) (f' (g x) (n+k))):Rel k h (o.bind f) (o'.bind f'):=by
 intro hnd;rw [ho (aF hnd)]
 cases o with
 | ok x n=>exact hf x n rfl hnd
 | form n=>rfl
 | deep n=>rfl
 | dry=>exact absurd rfl hnd
theorem bg {α:Type} {k:Nat} {g:α→α} {c c':Bool} {a b a' b':Out α} (hc:c'=c) (ha:c=true→Rel k g a a') (hb:c=false→Rel k g b b'):Rel k g (bif c then a else b) (bif c' then a' else b'):=by
 subst hc
 cases c'
 ·exact hb rfl
 ·exact ha rfl
theorem aU {α:Type} {k:Nat} {g:α→α} {x x':α} {m m':Nat} (hx:x'=g x) (hm:m'=m+k):Rel k g (.ok x m) (.ok x' m'):=fun _=>by rw [hx,hm]; rfl
theorem xh {α:Type} {k:Nat} {g:α→α} {m m':Nat} (hm:m'=m+k):Rel k g (.form m) (.form m'):=fun _=>by rw [hm]; rfl
theorem aX (k:Nat) (a:Int) (f t:Nat) (ns:List Nat) (ks:List Pb):(node a f t ns ks).on k=node a (f+k) (t+k) (ns.map fun x=>x+k) (ks.map (Pb.on k)):=by
 simp only [node,Pb.on,QJ,Pb.mk.injEq,List.map_map,true_and,and_true];refine ⟨by omega,by omega,?_⟩
 apply List.map_congr_left
 intro x _
 simp
theorem uo (k:Nat) (m:Int) (b:Pb):(marked m b).on k=marked m (b.on k):=by cases b; rfl
theorem sW (k:Nat) (l:List Pb) (a:Int) (f t:Nat) (ns:List Nat):(fJ l a f t ns).on k=fJ (l.map (Pb.on k)) a (f+k) (t+k) (ns.map fun x=>x+k):=by
 match l with
 | []=>exact aX k a f t ns []
 | [b]=>rfl
 | b :: c :: r=>exact aX k a f t ns (b :: c :: r)
abbrev addN (k:Nat):Nat→Nat:=fun x=>x+k
abbrev Dt (k:Nat):List Nat→List Nat:=List.map (addN k)
structure Sh (S S':Src) (k:Nat):Prop where
 kd:∀ i,S'.kd (i+k)=S.kd i
 tx:∀ i,S'.tx (i+k)=S.tx i
 len:S.ts.length≤S'.ts.length
section
variable {S S':Src} {k:Nat}
theorem Sh.is (H:Sh S S' k) (n:Nat) (t:List UInt8):S'.is (n+k) t=S.is n t:=by unfold Src.is; rw [H.tx]
theorem dB (H:Sh S S' k) (t:List UInt8) (n:Nat):Rel k id (S.need t n) (S'.need t (n+k)):=by
 unfold Src.need;exact bg (H.is n t) (fun _=>aU rfl (by omega)) (fun _=>xh rfl)
theorem fQ (H:Sh S S' k) (ks:List Int) (n:Nat):Rel k (addN k) (S.take ks n) (S'.take ks (n+k)):=by
 unfold Src.take;rw [H.kd];exact bg rfl (fun _=>aU rfl (by omega)) (fun _=>xh rfl)
theorem Ew {ks:List Int} {n x m:Nat} (h:S.take ks n=.ok x m):0 < m:=by
 unfold Src.take at h
 cases hc:ks.contains (S.kd n) <;> rw [hc] at h
 ·cases h
 ·simp only [cond_true,Out.ok.injEq] at h; omega
theorem ND (H:Sh S S' k) (ks:List Int):∀ (f f':Nat) (acc:List Nat) (n:Nat),f≤f'→0 < n→Rel k (Dt k) (S.pathL ks f acc n) (S'.pathL ks f' (Dt k acc) (n+k)):=by
 intro f
 induction f with
 | zero=>intro f' acc n _ _ h; exact absurd rfl h
 | succ f ih =>
  intro f' acc n hf hn;obtain ⟨q,rfl⟩:∃ q,f'=q+1:=⟨f' - 1,by omega⟩
  unfold Src.pathL;rw [show n+k - 1=n - 1+k by omega,H.kd,H.is];refine bg rfl (fun _=>?_) (fun _=>aU rfl rfl)
  rw [Nat.add_right_comm];refine au (fQ H ks (n+1)) (fun x m hx=>?_)
  have:=ih q (acc++[x]) m (by omega) (Ew hx)
  simpa [Dt] using this
theorem pY (H:Sh S S' k) (ks:List Int) (n:Nat):Rel k (Dt k) (S.path ks n) (S'.path ks (n+k)):=by
 unfold Src.path;exact au (fQ H ks n) (fun x m hx=>ND H ks _ _ [x] m H.len (Ew hx))
theorem CW {ks:List Int} {n m:Nat} {p:List Nat} (h:S.path ks n=.ok p m):0 < m:=by have:=zY h; omega
theorem jY (H:Sh S S' k) (n:Nat):Rel k (Dt k) (S.typePath n) (S'.typePath (n+k)):=by
 unfold Src.typePath;refine au (pY H [7,6] n) (fun p m hp=>?_)
 have:=CW hp
 rw [show m+k - 1=m - 1+k by omega,H.kd];exact bg rfl (fun _=>aU rfl rfl) (fun _=>xh rfl)
theorem xN (H:Sh S S' k) (n:Nat):Rel k (addN k) (S.value n) (S'.value (n+k)):=by
 unfold Src.value;exact bg (H.is n _) (fun _=>by rw [Nat.add_right_comm]; exact fQ H _ _) (fun _=>fQ H _ _)
theorem Sh.begins (H:Sh S S' k) (o:List (List UInt8)) (n:Nat):S'.begins o (n+k)=S.begins o n:=by
 unfold Src.begins Src.beginsK;rw [H.kd,H.is,H.is]
 congr 1
 congr 1
 funext t
 exact H.is n t
theorem Sh.colon (H:Sh S S' k) (n:Nat):S'.colon (n+k)=((S.colon n).1,(S.colon n).2+k):=by
 unfold Src.colon;rw [H.is,H.is]
 cases S.is n [58]
 ·cases S.is n [58,62]
  ·rfl
  ·simp; omega
 ·simp; omega
theorem Sh.declares (H:Sh S S' k) (a n:Nat):declares S' a (n+k)=declares S a n:=by
 unfold Go.Proofs.YtmpmfamiegpmgaaGreatDoor.declares;simp only [H.is]
theorem Ro (H:Sh S S' k) (mark:List UInt8) {read read':Nat→Out Pb} (hr:∀ n,Rel k (Pb.on k) (read n) (read' (n+k))):∀ (f f':Nat) (acc:List Pb) (n:Nat),f≤f'→Rel k (List.map (Pb.on k)) (lJ S mark read f acc n) (lJ S' mark read' f' (acc.map (Pb.on k)) (n+k)):=by
 intro f
 induction f with
 | zero=>intro f' acc n _ h; exact absurd rfl h
 | succ f ih =>
  intro f' acc n hf;obtain ⟨q,rfl⟩:∃ q,f'=q+1:=⟨f' - 1,by omega⟩
  unfold lJ;refine bg (H.is n mark) (fun _=>?_) (fun _=>aU rfl rfl)
  rw [Nat.add_right_comm];refine au (hr (n+1)) (fun b m _=>?_)
  have:=ih q (acc++[b]) m (by omega)
  simpa using this
theorem nI (H:Sh S S' k) {F F':Nat} (hF:F≤F') (mark:List UInt8) {read read':Nat→Out Pb} (hr:∀ n,Rel k (Pb.on k) (read n) (read' (n+k))) (n:Nat):Rel k (List.map (Pb.on k)) (gI S F mark read n) (gI S' F' mark read' (n+k)):=by
 unfold gI;exact au (hr n) (fun b m _=>Ro H mark hr F F' [b] m hF)
end
set_option maxRecDepth 20000
abbrev blL:List UInt8:=[32,40,42,32,120,32,40,42,42,41,32,42,41,10]
def spL:List (Int × List UInt8)→List UInt8
 | []=>blL++blL
 | (_,x) :: r=>blL++(x++spL r)
def Own (p:Int × List UInt8):Prop:=p.2≠[]∧dw p.2=(p.1,p.2.length)∧p.1≠3∧p.1≠1∧p.1≠2
def XA:Nat→List (Int × List UInt8)→List Tok
 | _,[]=>[]
 | a,(k,x) :: r=>⟨k,a+14,a+14+x.length⟩ :: XA (a+14+x.length) r
def aaZ (s:ByteArray):List (Int × List UInt8):=(lX s).map fun T=>(T.k,(s.extract T.a T.e).data.toList)
section
variable {S S':Src} {k:Nat}
theorem DX (H:Sh S S' k) {F F':Nat} (hF:F≤F') {rec rec':Nt→Nat→Nat→Out Pb} {d:Nat} (hr:∀ nt n,Rel k (Pb.on k) (rec nt d n) (rec' nt d (n+k))) (n:Nat):Rel k (Pb.on k) (dF S F rec d n) (dF S' F' rec' d (n+k)):=by
 unfold dF;refine bg (by rw [H.kd]) (fun _=>aU (by simp [aX,Nat.add_right_comm]) (by omega)) (fun _=>bg (H.is n _) (fun _=>?_) (fun _=>?_))
 ·rw [Nat.add_right_comm]
  refine au (nI H hF [44] (hr .ty) (n+1)) (fun l m _=>?_)
  refine au (dB H [41] m) (fun u m2 _=>?_)
  match l with
  | [b]=>exact aU rfl rfl
  | []=>exact au (jY H m2) (fun p m3 _=>aU (by simp [aX,Nat.add_right_comm]) (by omega))
  | a :: b :: c=>exact au (jY H m2) (fun p m3 _=>aU (by simp [aX,Nat.add_right_comm]) (by omega))
 ·exact au (jY H n) (fun p m3 _=>aU (by simp [aX,Nat.add_right_comm]) (by omega))
theorem Ee (H:Sh S S' k) (n:Nat):∀ (f f':Nat) (b:Pb) (m:Nat),f≤f'→Rel k (Pb.on k) (dG S n f b m) (dG S' (n+k) f' (b.on k) (m+k)):=by
 intro f
 induction f with
 | zero=>intro f' b m _ h; exact absurd rfl h
 | succ f ih =>
  intro f' b m hf;obtain ⟨q,rfl⟩:∃ q,f'=q+1:=⟨f' - 1,by omega⟩
  unfold dG;refine bg (by rw [H.kd]) (fun _=>?_) (fun _=>aU rfl rfl)
  refine au (jY H m) (fun p m1 _=>?_)
  have:=ih q (node 42 n m1 p [b]) m1 (by omega)
  rwa [aX] at this
theorem EX (H:Sh S S' k) {F F':Nat} (hF:F≤F') {rec rec':Nt→Nat→Nat→Out Pb} {d:Nat} (hr:∀ nt n,Rel k (Pb.on k) (rec nt d n) (rec' nt d (n+k))) (n:Nat):Rel k (Pb.on k) (cZ S F rec d n) (cZ S' F' rec' d (n+k)):=by
 unfold cZ;exact au (DX H hF hr n) (fun b m _=>Ee H n F F' b m hF)
theorem FQ (H:Sh S S' k) {F F':Nat} (hF:F≤F') {rec rec':Nt→Nat→Nat→Out Pb} {d:Nat} (hr:∀ nt n,Rel k (Pb.on k) (rec nt d n) (rec' nt d (n+k))) (n:Nat):Rel k (Pb.on k) (dS S F rec d n) (dS S' F' rec' d (n+k)):=by
 unfold dS;exact au (nI H hF [42] (fun n=>EX H hF hr n) n) (fun l m _=>aU (by simp [sW]) rfl)
theorem XC (H:Sh S S' k) {F F':Nat} (hF:F≤F') {rec rec':Nt→Nat→Nat→Out Pb} {d:Nat} (hr:∀ nt n,Rel k (Pb.on k) (rec nt d n) (rec' nt d (n+k))) (n:Nat):Rel k (Pb.on k) (tyO S F rec d n) (tyO S' F' rec' d (n+k)):=by
 unfold tyO;refine au (FQ H hF hr n) (fun b m _=>bg (H.is m _) (fun _=>?_) (fun _=>aU rfl rfl))
 rw [Nat.add_right_comm];exact au (hr .ty (m+1)) (fun c m2 _=>aU (by simp [aX,Nat.add_right_comm]) (by omega))
theorem OB (H:Sh S S' k) {F F':Nat} (hF:F≤F') (fr:Nat) {mem mem':Nat→Out Pb} (hm:∀ n,Rel k (Pb.on k) (mem n) (mem' (n+k))) (n:Nat):Rel k (Pb.on k) (iy S F fr mem n) (iy S' F' (fr+k) mem' (n+k)):=by
 unfold iy;refine bg (H.is n _) (fun _=>aU (by simp [aX,Nat.add_right_comm]) (by omega)) (fun _=>?_)
 refine au (nI H hF [44] hm n) (fun l m _=>?_)
 exact au (dB H [41] m) (fun u m2 _=>aU (by simp [sW]) rfl)
theorem D7 (H:Sh S S' k) {F F':Nat} (hF:F≤F') (nm:Int) {mem mem':Nat→Out Pb} (hm:∀ n,Rel k (Pb.on k) (mem n) (mem' (n+k))) (n:Nat):Rel k (Pb.on k) (plainO S F nm mem n) (plainO S' F' nm mem' (n+k)):=by
 unfold plainO;refine bg (by rw [H.kd]) (fun _=>aU (by simp [aX,Nat.add_right_comm]) (by omega)) (fun _=>bg (by rw [H.kd]) (fun _=>aU (by simp [aX,Nat.add_right_comm]) (by omega)) (fun _=>bg (H.is n _) (fun _=>?_) (fun _=>?_)))
 ·rw [Nat.add_right_comm]; exact OB H hF n hm (n+1)
 ·exact au (xN H n) (fun m m2 _=>aU (by simp [aX,Nat.add_right_comm]) (by omega))
theorem kQ (H:Sh S S' k) {F F':Nat} (hF:F≤F') {rec rec':Nt→Nat→Nat→Out Pb} {d:Nat} (hr:∀ nt n,Rel k (Pb.on k) (rec nt d n) (rec' nt d (n+k))) (n:Nat):Rel k (Pb.on k) (bQ S F rec d n) (bQ S' F' rec' d (n+k)):=by
 unfold bQ;refine bg (H.is n _) (fun _=>aU (by simp [aX,Nat.add_right_comm]) (by omega)) (fun _=>bg (by rw [H.kd]) (fun _=>?_) (fun _=>D7 H hF 39 (hr .pat) n))
 exact au (pY H [7] n) (fun p m _=>aU (by simp [aX,Nat.add_right_comm]) (by omega))
theorem UI (H:Sh S S' k) {F F':Nat} (hF:F≤F') {rec rec':Nt→Nat→Nat→Out Pb} {d:Nat} (hr:∀ nt n,Rel k (Pb.on k) (rec nt d n) (rec' nt d (n+k))) (n:Nat):Rel k (Pb.on k) (oH S F rec d n) (oH S' F' rec' d (n+k)):=by
 unfold oH;refine bg (by rw [H.kd,show n+k+1=n+1+k by omega,H.is]) (fun _=>?_) (fun _=>bg (by rw [H.kd]) (fun _=>?_) (fun _=>kQ H hF hr n))
 ·rw [show n+k+2=n+2+k by omega]
  exact au (hr .pat (n+2)) (fun c m2 _=>aU (by simp [aX,Nat.add_right_comm]) (by omega))
 ·refine au (pY H [7] n) (fun p m _=>bg (H.begins _ m) (fun _=>?_) (fun _=>aU (by simp [aX,Nat.add_right_comm]) (by omega)))
  exact au (kQ H hF hr m) (fun c m2 _=>aU (by simp [aX,Nat.add_right_comm]) (by omega))
theorem Nr (H:Sh S S' k) {F F':Nat} (hF:F≤F') {rec rec':Nt→Nat→Nat→Out Pb} {d:Nat} (hr:∀ nt n,Rel k (Pb.on k) (rec nt d n) (rec' nt d (n+k))) (a:Nat):∀ (f f':Nat) (acc:List Pb) (n:Nat),f≤f'→Rel k (List.map (Pb.on k)) (jE S rec d a f acc n) (jE S' rec' d a f' (acc.map (Pb.on k)) (n+k)):=by
 intro f
 induction f with
 | zero=>intro f' acc n _ h; exact absurd rfl h
 | succ f ih =>
  intro f' acc n hf;obtain ⟨q,rfl⟩:∃ q,f'=q+1:=⟨f' - 1,by omega⟩
  unfold jE;refine bg (H.is n _) (fun _=>?_) (fun _=>bg (H.declares a n) (fun _=>?_) (fun _=>aU rfl rfl))
  ·rw [Nat.add_right_comm]; exact ih q acc (n+1) (by omega)
  ·refine au (hr (.dec a) n) (fun b m _=>?_)
   have:=ih q (acc++[b]) m (by omega)
   simpa using this
theorem AL (H:Sh S S' k) {F F':Nat} (hF:F≤F') {rec rec':Nt→Nat→Nat→Out Pb} {d:Nat} (hr:∀ nt n,Rel k (Pb.on k) (rec nt d n) (rec' nt d (n+k))) (a n:Nat):Rel k (List.map (Pb.on k)) (gZ S F rec d a n) (gZ S' F' rec' d a (n+k)):=by
 exact Nr H hF hr a F F' [] n hF
theorem um (H:Sh S S' k) {F F':Nat} (hF:F≤F') {rec rec':Nt→Nat→Nat→Out Pb} {d:Nat} (hr:∀ nt n,Rel k (Pb.on k) (rec nt d n) (rec' nt d (n+k))) (a n:Nat):Rel k (Pb.on k) (fA S F rec d a n) (fA S' F' rec' d a (n+k)):=by
 unfold fA;exact au (AL H hF hr a n) (fun l m _=>aU (by simp [aX,Nat.add_right_comm]) (by omega))
theorem Ha (H:Sh S S' k) {F F':Nat} (hF:F≤F') {rec rec':Nt→Nat→Nat→Out Pb} {d:Nat} (hr:∀ nt n,Rel k (Pb.on k) (rec nt d n) (rec' nt d (n+k))) (n:Nat):Rel k (Pb.on k) (iE S F rec d n) (iE S' F' rec' d (n+k)):=by
 unfold iE;refine bg (by rw [H.kd]) (fun _=>?_) (fun _=>bg (H.is n _) (fun _=>?_) (fun _=>D7 H hF 28 (hr .exp) n))
 ·refine au (pY H [7,6] n) (fun p m hp=>?_)
  have:=CW hp
  rw [show m+k - 1=m - 1+k by omega,H.kd];exact bg rfl (fun _=>aU (by simp [aX,Nat.add_right_comm]) (by omega)) (fun _=>aU (by simp [aX,Nat.add_right_comm]) (by omega))
 ·rw [Nat.add_right_comm]
  refine au (um H hF hr 0 (n+1)) (fun ds m _=>?_)
  refine au (dB H _ m) (fun u m2 _=>?_)
  refine au (hr .exp m2) (fun e m3 _=>?_)
  exact au (dB H _ m3) (fun u m4 _=>aU (by simp [aX,Nat.add_right_comm]) (by omega))
theorem Nh (H:Sh S S' k) {F F':Nat} (hF:F≤F') {rec rec':Nt→Nat→Nat→Out Pb} {d:Nat} (hr:∀ nt n,Rel k (Pb.on k) (rec nt d n) (rec' nt d (n+k))):∀ (f f':Nat) (acc:List Pb) (n:Nat),f≤f'→Rel k (List.map (Pb.on k)) (jc S F rec d f acc n) (jc S' F' rec' d f' (acc.map (Pb.on k)) (n+k)):=by
 intro f
 induction f with
 | zero=>intro f' acc n _ h; exact absurd rfl h
 | succ f ih =>
  intro f' acc n hf;obtain ⟨q,rfl⟩:∃ q,f'=q+1:=⟨f' - 1,by omega⟩
  unfold jc;refine bg (H.begins _ n) (fun _=>?_) (fun _=>aU rfl rfl)
  ·refine au (Ha H hF hr n) (fun b m _=>?_)
   have:=ih q (acc++[b]) m (by omega)
   simpa using this
theorem GK (H:Sh S S' k) {F F':Nat} (hF:F≤F') {rec rec':Nt→Nat→Nat→Out Pb} {d:Nat} (hr:∀ nt n,Rel k (Pb.on k) (rec nt d n) (rec' nt d (n+k))) (n:Nat):Rel k (Pb.on k) (jD S F rec d n) (jD S' F' rec' d (n+k)):=by
 unfold jD;refine au (Ha H hF hr n) (fun b m _=>?_)
 exact au (Nh H hF hr F F' [b] m hF) (fun l m2 _=>aU (by simp [sW]) rfl)
abbrev onI (k:Nat):List Nat × List Pb→List Nat × List Pb:=fun l=>(Dt k l.1,l.2.map (Pb.on k))
theorem JR (H:Sh S S' k) {F F':Nat} (hF:F≤F') {rec rec':Nt→Nat→Nat→Out Pb} {d:Nat} (hr:∀ nt n,Rel k (Pb.on k) (rec nt d n) (rec' nt d (n+k))):∀ (f f':Nat) (sg:List Nat) (acc:List Pb) (n:Nat),f≤f'→Rel k (onI k) (iO S F rec d f sg acc n) (iO S' F' rec' d f' (Dt k sg) (acc.map (Pb.on k)) (n+k)):=by
 intro f
 induction f with
 | zero=>intro f' sg acc n _ h; exact absurd rfl h
 | succ f ih =>
  intro f' sg acc n hf;obtain ⟨q,rfl⟩:∃ q,f'=q+1:=⟨f' - 1,by omega⟩
  unfold iO;refine bg (by rw [H.kd]) (fun _=>?_) (fun _=>aU rfl rfl)
  refine au (fQ H [9] n) (fun x m _=>?_)
  refine au (GK H hF hr m) (fun b m2 _=>?_)
  have:=ih q (sg++[x]) (acc++[b]) m2 (by omega)
  simpa [Dt] using this
theorem MZ (H:Sh S S' k) {F F':Nat} (hF:F≤F') {rec rec':Nt→Nat→Nat→Out Pb} {d:Nat} (hr:∀ nt n,Rel k (Pb.on k) (rec nt d n) (rec' nt d (n+k))) (n:Nat):Rel k (Pb.on k) (gz S F rec d n) (gz S' F' rec' d (n+k)):=by
 unfold gz;refine au (GK H hF hr n) (fun b m _=>?_)
 exact au (JR H hF hr F F' [] [b] m hF) (fun l m2 _=>aU (by simp [sW,onI]) rfl)
theorem yR (H:Sh S S' k) {F F':Nat} (hF:F≤F') {rec rec':Nt→Nat→Nat→Out Pb} {d:Nat} (hr:∀ nt n,Rel k (Pb.on k) (rec nt d n) (rec' nt d (n+k))) (a:Int) (fr n:Nat):Rel k (Pb.on k) (fB S rec d a fr n) (fB S' rec' d a (fr+k) (n+k)):=by
 unfold fB;refine au (hr .pat n) (fun p m _=>?_)
 refine au (dB H _ m) (fun u m2 _=>?_)
 exact au (hr .exp m2) (fun e m3 _=>aU (by simp [aX,Nat.add_right_comm]) (by omega))
theorem UX (H:Sh S S' k) {F F':Nat} (hF:F≤F') {rec rec':Nt→Nat→Nat→Out Pb} {d:Nat} (hr:∀ nt n,Rel k (Pb.on k) (rec nt d n) (rec' nt d (n+k))) (n:Nat):Rel k (Pb.on k) (oD S F rec d n) (oD S' F' rec' d (n+k)):=by
 unfold oD;refine bg (H.is n _) (fun _=>?_) (fun _=>bg (H.is n _) (fun _=>?_) (fun _=>bg (H.is n _) (fun _=>?_) (fun _=>MZ H hF hr n)))
 ·rw [Nat.add_right_comm]
  refine au (hr .exp (n+1)) (fun a m _=>?_)
  refine au (dB H _ m) (fun u m2 _=>?_)
  refine au (hr .exp m2) (fun b m3 _=>?_)
  refine au (dB H _ m3) (fun u m4 _=>?_)
  exact au (hr .exp m4) (fun c m5 _=>aU (by simp [aX,Nat.add_right_comm]) (by omega))
 ·rw [Nat.add_right_comm]
  refine au (hr .exp (n+1)) (fun a m _=>?_)
  refine au (dB H _ m) (fun u m2 _=>?_)
  exact au (nI H hF _ (fun n=>yR H hF hr 33 n n) m2) (fun l m3 _=>aU (by simp [aX,Nat.add_right_comm]) (by omega))
 ·rw [Nat.add_right_comm]
  exact yR H hF hr 34 n (n+1)
theorem NW (H:Sh S S' k):∀ (f f' n:Nat),f≤f'→Rel k id (jv S f n) (jv S' f' (n+k)):=by
 intro f
 induction f with
 | zero=>intro f' n _ h; exact absurd rfl h
 | succ f ih =>
  intro f' n hf;obtain ⟨q,rfl⟩:∃ q,f'=q+1:=⟨f' - 1,by omega⟩
  unfold jv;refine bg (H.is n _) (fun _=>?_) (fun _=>aU rfl rfl)
  rw [Nat.add_right_comm];exact au (fQ H [8] (n+1)) (fun x m _=>ih q m (by omega))
theorem pJ (H:Sh S S' k) {F F':Nat} (hF:F≤F') (n:Nat):Rel k (addN k) (bT S F n) (bT S' F' (n+k)):=by
 unfold bT;refine bg (by rw [H.kd]) (fun _=>?_) (fun _=>bg (H.is n _) (fun _=>?_) (fun _=>fQ H [6] n))
 ·rw [Nat.add_right_comm]; exact fQ H [6] (n+1)
 ·rw [Nat.add_right_comm]
  refine au (fQ H [8] (n+1)) (fun x m _=>?_)
  refine au (NW H F F' m hF) (fun u m2 _=>?_)
  exact au (dB H _ m2) (fun u m3 _=>fQ H [6] m3)
theorem UL (H:Sh S S' k) {F F':Nat} (hF:F≤F') {rec rec':Nt→Nat→Nat→Out Pb} {d:Nat} (hr:∀ nt n,Rel k (Pb.on k) (rec nt d n) (rec' nt d (n+k))) (n:Nat):Rel k (Pb.on k) (lW S rec d n) (lW S' rec' d (n+k)):=by
 unfold lW;refine au (fQ H [7] n) (fun x m _=>bg (H.is m _) (fun _=>?_) (fun _=>aU (by simp [aX,Nat.add_right_comm]) (by omega)))
 rw [Nat.add_right_comm];exact au (hr .ty (m+1)) (fun c m2 _=>aU (by simp [aX,Nat.add_right_comm]) (by omega))
theorem OC (H:Sh S S' k) {F F':Nat} (hF:F≤F') {rec rec':Nt→Nat→Nat→Out Pb} {d:Nat} (hr:∀ nt n,Rel k (Pb.on k) (rec nt d n) (rec' nt d (n+k))) (n:Nat):Rel k (Pb.on k) (fV S F rec d n) (fV S' F' rec' d (n+k)):=by
 unfold fV;refine au (pJ H hF n) (fun x m _=>?_)
 refine au (dB H _ m) (fun u m2 _=>?_)
 exact au (nI H hF _ (fun n=>UL H hF hr n) m2) (fun l m3 _=>aU (by simp [aX,Nat.add_right_comm]) (by omega))
theorem sS (H:Sh S S' k) {F F':Nat} (hF:F≤F') {rec rec':Nt→Nat→Nat→Out Pb} {d:Nat} (hr:∀ nt n,Rel k (Pb.on k) (rec nt d n) (rec' nt d (n+k))) (fr n:Nat):Rel k (Pb.on k) (bU S F rec d fr n) (bU S' F' rec' d (fr+k) (n+k)):=by
 unfold bU;exact au (nI H hF _ (fun n=>OC H hF hr n) n) (fun l m3 _=>aU (by simp [aX,Nat.add_right_comm]) (by omega))
theorem QO (H:Sh S S' k) {F F':Nat} (hF:F≤F') {rec rec':Nt→Nat→Nat→Out Pb} {d:Nat} (hr:∀ nt n,Rel k (Pb.on k) (rec nt d n) (rec' nt d (n+k))) (n:Nat):Rel k (Pb.on k) (jF S F rec d n) (jF S' F' rec' d (n+k)):=by
 unfold jF;refine bg (H.is n _) (fun _=>?_) (fun _=>bg (H.is n _) (fun _=>?_) (fun _=>bg (H.is n _) (fun _=>?_) (fun _=>bg (H.is n _) (fun _=>?_) (fun _=>?_))))
 ·rw [Nat.add_right_comm]
  refine au (xN H (n+1)) (fun x m _=>?_)
  refine au (dB H _ m) (fun u m2 _=>?_)
  exact au (hr .ty m2) (fun c m3 _=>aU (by simp [aX,Nat.add_right_comm]) (by omega))
 ·rw [Nat.add_right_comm]
  refine au (pJ H hF (n+1)) (fun x m _=>bg (H.is m _) (fun _=>?_) (fun _=>aU (by simp [aX,Nat.add_right_comm]) (by omega)))
  rw [Nat.add_right_comm];exact au (hr .ty (m+1)) (fun c m2 _=>aU (by simp [aX,Nat.add_right_comm]) (by omega))
 ·rw [Nat.add_right_comm]; exact sS H hF hr n (n+1)
 ·rw [Nat.add_right_comm]
  refine au (fQ H [7] (n+1)) (fun x m _=>?_)
  refine au (dB H _ m) (fun u m2 _=>?_)
  exact au (hr .sig m2) (fun c m3 _=>aU (by simp [aX,Nat.add_right_comm]) (by omega))
 ·refine au (dB H _ n) (fun u m2 _=>?_)
  exact au (hr .sig m2) (fun c m3 _=>aU (by simp [aX,Nat.add_right_comm]) (by omega))
theorem I5 (H:Sh S S' k) {F F':Nat} (hF:F≤F') {rec rec':Nt→Nat→Nat→Out Pb} {d:Nat} (hr:∀ nt n,Rel k (Pb.on k) (rec nt d n) (rec' nt d (n+k))):∀ (f f':Nat) (acc:List Pb) (n:Nat),f≤f'→Rel k (List.map (Pb.on k)) (iC S F rec d f acc n) (iC S' F' rec' d f' (acc.map (Pb.on k)) (n+k)):=by
 intro f
 induction f with
 | zero=>intro f' acc n _ h; exact absurd rfl h
 | succ f ih =>
  intro f' acc n hf;obtain ⟨q,rfl⟩:∃ q,f'=q+1:=⟨f' - 1,by omega⟩
  unfold iC;refine bg (H.is n _) (fun _=>aU rfl (by omega)) (fun _=>bg (H.is n _) (fun _=>?_) (fun _=>?_))
  ·rw [Nat.add_right_comm]; exact ih q acc (n+1) (by omega)
  ·refine au (QO H hF hr n) (fun b m _=>?_)
   have:=ih q (acc++[b]) m (by omega)
   simpa using this
theorem F8 (H:Sh S S' k) {F F':Nat} (hF:F≤F') {rec rec':Nt→Nat→Nat→Out Pb} {d:Nat} (hr:∀ nt n,Rel k (Pb.on k) (rec nt d n) (rec' nt d (n+k))) (n:Nat):Rel k (Pb.on k) (dY S F rec d n) (dY S' F' rec' d (n+k)):=by
 unfold dY;refine bg (H.is n _) (fun _=>?_) (fun _=>?_)
 ·rw [Nat.add_right_comm]
  exact au (I5 H hF hr F F' [] (n+1) hF) (fun l m _=>aU (by simp [aX,Nat.add_right_comm]) (by omega))
 ·exact au (fQ H [7] n) (fun x m _=>aU (by simp [aX,Nat.add_right_comm]) (by omega))
theorem JB (H:Sh S S' k) {F F':Nat} (hF:F≤F') {rec rec':Nt→Nat→Nat→Out Pb} {d:Nat} (hr:∀ nt n,Rel k (Pb.on k) (rec nt d n) (rec' nt d (n+k))) (fr:Nat):∀ (f f':Nat) (b:Pb) (n:Nat),f≤f'→Rel k (Pb.on k) (iM S rec d fr f b n) (iM S' rec' d (fr+k) f' (b.on k) (n+k)):=by
 intro f
 induction f with
 | zero=>intro f' b n _ h; exact absurd rfl h
 | succ f ih =>
  intro f' b n hf;obtain ⟨q,rfl⟩:∃ q,f'=q+1:=⟨f' - 1,by omega⟩
  unfold iM;refine bg (H.is n _) (fun _=>?_) (fun _=>aU rfl rfl)
  rw [Nat.add_right_comm];refine au (dB H _ (n+1)) (fun u m _=>?_)
  refine au (jY H m) (fun p m2 _=>?_)
  refine au (dB H _ m2) (fun u m3 _=>?_)
  refine au (hr .ty m3) (fun c m4 _=>?_)
  have:=ih q (node 21 fr m4 p [b,c]) m4 (by omega)
  rwa [aX] at this
theorem UE (H:Sh S S' k) {F F':Nat} (hF:F≤F') {rec rec':Nt→Nat→Nat→Out Pb} {d:Nat} (hr:∀ nt n,Rel k (Pb.on k) (rec nt d n) (rec' nt d (n+k))) (n:Nat):Rel k (Pb.on k) (nJ S F rec d n) (nJ S' F' rec' d (n+k)):=by
 unfold nJ;exact au (F8 H hF hr n) (fun b m _=>JB H hF hr n F F' b m hF)
theorem EU (H:Sh S S' k) {F F':Nat} (hF:F≤F') {rec rec':Nt→Nat→Nat→Out Pb} {d:Nat} (hr:∀ nt n,Rel k (Pb.on k) (rec nt d n) (rec' nt d (n+k))) (n:Nat):Rel k (Pb.on k) (dW S F rec d n) (dW S' F' rec' d (n+k)):=by
 unfold dW;refine bg (H.is n _) (fun _=>?_) (fun _=>bg (by rw [H.kd,show n+k+1=n+1+k by omega,H.is]) (fun _=>?_) (fun _=>?_))
 ·rw [Nat.add_right_comm]
  refine au (AL H hF hr 1 (n+1)) (fun l m _=>?_)
  exact au (dB H _ m) (fun u m2 _=>aU (by simp [aX,Nat.add_right_comm]) (by omega))
 ·rw [show n+k+2=n+2+k by omega]
  refine au (hr .str (n+2)) (fun c m2 _=>?_)
  exact au (dB H _ m2) (fun u m3 _=>aU (by simp [aX,Nat.add_right_comm]) (by omega))
 ·exact au (pY H [7] n) (fun p m _=>aU (by simp [aX,Nat.add_right_comm]) (by omega))
theorem NM (H:Sh S S' k) {F F':Nat} (hF:F≤F') {rec rec':Nt→Nat→Nat→Out Pb} {d:Nat} (hr:∀ nt n,Rel k (Pb.on k) (rec nt d n) (rec' nt d (n+k))) (fr:Nat):∀ (f f':Nat) (b:Pb) (n:Nat),f≤f'→Rel k (Pb.on k) (jZ S rec d fr f b n) (jZ S' rec' d (fr+k) f' (b.on k) (n+k)):=by
 intro f
 induction f with
 | zero=>intro f' b n _ h; exact absurd rfl h
 | succ f ih =>
  intro f' b n hf;obtain ⟨q,rfl⟩:∃ q,f'=q+1:=⟨f' - 1,by omega⟩
  unfold jZ;rw [H.colon];refine bg rfl (fun _=>aU rfl rfl) (fun _=>?_)
  rw [Nat.add_right_comm];refine au (hr .sig (n+1)) (fun c m _=>?_)
  have:=ih q (marked ((S.colon n).1:Int) (node 18 fr m [] [b,c])) m (by omega)
  rwa [uo,aX] at this
theorem U1 (H:Sh S S' k) {F F':Nat} (hF:F≤F') {rec rec':Nt→Nat→Nat→Out Pb} {d:Nat} (hr:∀ nt n,Rel k (Pb.on k) (rec nt d n) (rec' nt d (n+k))) (n:Nat):Rel k (Pb.on k) (nV S F rec d n) (nV S' F' rec' d (n+k)):=by
 unfold nV;exact au (EU H hF hr n) (fun b m _=>NM H hF hr n F F' b m hF)
abbrev onB (k:Nat):Nat × List Pb→Nat × List Pb:=fun l=>(l.1,l.2.map (Pb.on k))
theorem G9 (H:Sh S S' k) {F F':Nat} (hF:F≤F') {rec rec':Nt→Nat→Nat→Out Pb} {d:Nat} (hr:∀ nt n,Rel k (Pb.on k) (rec nt d n) (rec' nt d (n+k))) (n:Nat):Rel k (onB k) (jA S rec d n) (jA S' rec' d (n+k)):=by
 unfold jA;rw [H.colon];refine au (g:=List.map (Pb.on k)) (bg rfl (fun _=>aU rfl rfl) (fun _=>?_)) (fun l m _=>?_)
 ·rw [Nat.add_right_comm]
  exact au (hr .sig (n+1)) (fun c m _=>aU rfl rfl)
 ·refine au (dB H _ m) (fun u m2 _=>?_)
  exact au (hr .str m2) (fun c m3 _=>aU (by simp [onB]) rfl)
theorem zU (H:Sh S S' k) {F F':Nat} (hF:F≤F') {rec rec':Nt→Nat→Nat→Out Pb} {d:Nat} (hr:∀ nt n,Rel k (Pb.on k) (rec nt d n) (rec' nt d (n+k))) (fr n:Nat):Rel k (Pb.on k) (cu S rec d fr n) (cu S' rec' d (fr+k) (n+k)):=by
 unfold cu;refine au (fQ H [7] n) (fun x m _=>?_)
 exact au (G9 H hF hr m) (fun l m2 _=>aU (by simp [aX,uo,onB]) rfl)
theorem FZ (H:Sh S S' k) {F F':Nat} (hF:F≤F') {rec rec':Nt→Nat→Nat→Out Pb} {d:Nat} (hr:∀ nt n,Rel k (Pb.on k) (rec nt d n) (rec' nt d (n+k))) (fr n:Nat):Rel k (Pb.on k) (dU S rec d fr n) (dU S' rec' d (fr+k) (n+k)):=by
 unfold dU;refine au (fQ H [7] n) (fun x m _=>?_)
 refine au (dB H _ m) (fun u m2 _=>?_)
 refine au (fQ H [7] m2) (fun y m3 _=>?_)
 refine au (dB H _ m3) (fun u m4 _=>?_)
 refine au (hr .sig m4) (fun c m5 _=>?_)
 refine au (dB H _ m5) (fun u m6 _=>?_)
 exact au (G9 H hF hr m6) (fun l m7 _=>aU (by simp [aX,uo,onB]) rfl)
theorem QF (H:Sh S S' k) {F F':Nat} (hF:F≤F') {rec rec':Nt→Nat→Nat→Out Pb} {d:Nat} (hr:∀ nt n,Rel k (Pb.on k) (rec nt d n) (rec' nt d (n+k))):∀ (f f':Nat) (acc:List Pb) (n:Nat),f≤f'→Rel k (List.map (Pb.on k)) (pg S F rec d f acc n) (pg S' F' rec' d f' (acc.map (Pb.on k)) (n+k)):=by
 intro f
 induction f with
 | zero=>intro f' acc n _ h; exact absurd rfl h
 | succ f ih =>
  intro f' acc n hf;obtain ⟨q,rfl⟩:∃ q,f'=q+1:=⟨f' - 1,by omega⟩
  unfold pg;refine bg (H.begins _ n) (fun _=>?_) (fun _=>aU rfl rfl)
  ·refine au (kQ H hF hr n) (fun b m _=>?_)
   have:=ih q (acc++[b]) m (by omega)
   simpa using this
theorem DZ (H:Sh S S' k) {F F':Nat} (hF:F≤F') {rec rec':Nt→Nat→Nat→Out Pb} {d:Nat} (hr:∀ nt n,Rel k (Pb.on k) (rec nt d n) (rec' nt d (n+k))) (n:Nat):Rel k (Pb.on k) (cO S F rec d n) (cO S' F' rec' d (n+k)):=by
 unfold cO;refine au (xN H n) (fun x m _=>?_)
 refine au (kQ H hF hr m) (fun b m2 _=>?_)
 refine au (QF H hF hr F F' [b] m2 hF) (fun l m3 _=>?_)
 refine au (dB H _ m3) (fun u m4 _=>?_)
 exact au (hr .exp m4) (fun c m5 _=>aU (by simp [aX,Nat.add_right_comm]) (by omega))
theorem Oo (H:Sh S S' k) {F F':Nat} (hF:F≤F') {rec rec':Nt→Nat→Nat→Out Pb} {d:Nat} (hr:∀ nt n,Rel k (Pb.on k) (rec nt d n) (rec' nt d (n+k))) (fr a n:Nat):Rel k (Pb.on k) (iw S F rec d fr a n) (iw S' F' rec' d (fr+k) a (n+k)):=by
 unfold iw;refine au (um H hF hr a n) (fun x m _=>?_)
 refine au (dB H _ m) (fun u m2 _=>?_)
 refine au (um H hF hr a m2) (fun x m3 _=>?_)
 exact au (dB H _ m3) (fun u m4 _=>aU (by simp [aX,Nat.add_right_comm]) (by omega))
theorem Ur (H:Sh S S' k) {F F':Nat} (hF:F≤F') {rec rec':Nt→Nat→Nat→Out Pb} {d:Nat} (hr:∀ nt n,Rel k (Pb.on k) (rec nt d n) (rec' nt d (n+k))) (a n:Nat):Rel k (Pb.on k) (nX S F rec d a n) (nX S' F' rec' d a (n+k)):=by
 unfold nX;rw [Nat.add_right_comm];refine bg (H.is n _) (fun _=>?_) (fun _=>bg (H.is n _) (fun _=>?_) (fun _=>bg (H.is n _) (fun _=>?_) (fun _=>bg (H.is n _) (fun _=>?_) (fun _=>bg (H.is n _) (fun _=>?_) (fun _=>bg (H.is n _) (fun _=>?_) (fun _=>bg (H.is n _) (fun _=>?_) (fun _=>bg (H.is n _) (fun _=>?_) (fun _=>?_))))))))
 ·refine au (hr .pat (n+1)) (fun p m _=>?_)
  refine au (dB H _ m) (fun u m2 _=>?_)
  exact au (hr .exp m2) (fun c m3 _=>aU (by simp [aX,Nat.add_right_comm]) (by omega))
 ·exact au (nI H hF _ (fun n=>DZ H hF hr n) (n+1)) (fun l m _=>aU (by simp [aX,Nat.add_right_comm]) (by omega))
 ·refine au (pJ H hF (n+1)) (fun x m _=>?_)
  refine au (dB H _ m) (fun u m2 _=>?_)
  exact au (hr .ty m2) (fun c m3 _=>aU (by simp [aX,Nat.add_right_comm]) (by omega))
 ·exact sS H hF hr n (n+1)
 ·exact zU H hF hr n (n+1)
 ·refine au (fQ H [7] (n+1)) (fun x m _=>?_)
  refine au (dB H _ m) (fun u m2 _=>?_)
  exact au (hr .sig m2) (fun c m3 _=>aU (by simp [aX,Nat.add_right_comm]) (by omega))
 ·exact FZ H hF hr n (n+1)
 ·exact au (pY H [7] (n+1)) (fun p m _=>aU (by simp [aX,Nat.add_right_comm]) (by omega))
 ·exact Oo H hF hr n a (n+1)
theorem MQ (H:Sh S S' k):∀ (f f':Nat),f≤f'→∀ nt d n,Rel k (Pb.on k) (parts S f nt d n) (parts S' f' nt d (n+k)):=by
 intro f
 induction f with
 | zero=>intro f' _ nt d n h; exact absurd rfl h
 | succ f ih =>
  intro f' hf nt d n;obtain ⟨q,rfl⟩:∃ q,f'=q+1:=⟨f' - 1,by omega⟩
  unfold parts;refine bg rfl (fun _=>fun _=>rfl) (fun _=>?_)
  have hq:f≤q:=by omega
  have hr:=fun nt n=>ih q hq nt (d+1) n
  cases nt with
  | exp=>exact UX H hq hr n
  | pat=>exact UI H hq hr n
  | ty=>exact XC H hq hr n
  | sig=>exact UE H hq hr n
  | str=>exact U1 H hq hr n
  | dec a=>exact Ur H hq hr a n
end
mutual
theorem Cc:(b:Pb)→b.on 0=b
 | .mk a m f t ns ks=>by
  have h:=zl ks;simp only [Pb.on,h]
  simp
theorem zl:(l:List Pb)→onL 0 l=l
 | []=>rfl
 | b :: r=>by
  have h1:=Cc b;have h2:=zl r;simp only [onL,h1,h2]
end
theorem N8 {o:Out Pb}:o.on 0 (Pb.on 0)=o:=by
 cases o <;> simp [Out.on,Cc]
theorem Ny {S S':Src} {k:Nat} (H:Sh S S' 0):Rel 0 (Pb.on 0) (jG S) (jG S'):=by
 have hF:fuel S≤fuel S':=by have:=H.len; unfold fuel; omega
 unfold jG jk;exact au (AL H hF (fun nt n=>MQ H (fuel S) (fuel S') hF nt 0 n) 2 0) (fun l m _=>aU (by simp [aX]) (by omega))
theorem DT {S S':Src} (H:Sh S S' 0) (o:Out Pb):fF S' o=fF S o:=by
 unfold fF
 cases o with
 | ok b n =>
  simp only [Out.bind]
  have:=H.kd n
  rw [Nat.add_zero] at this;rw [this]
 | form n=>rfl
 | deep n=>rfl
 | dry=>rfl
inductive II:List UInt8→Prop
 | nil:II []
 | blank (c:UInt8) (hc:gQ c=true) {l:List UInt8} (h:II l):II (c :: l)
 | note {l:List UInt8} (h:II l):II (40 :: 42 :: 120 :: 42 :: 41 :: l)
def onT (K:Nat) (t:Tok):Tok:=⟨t.k,t.a+K,t.e+K⟩
theorem uw {S S':Src} (H:Sh S S' 0) (g:S.Good) (ht:S.ts=aO S.s):fF S' (jG S')=fF S (jG S):=by
 have h1:=Ny (k:=0) H (Dh S ht g);rw [h1,N8];exact DT H _
theorem zT {S S':Src} (h1:S'.s=S.s) (h2:S'.ts=S.ts):Sh S S' 0:=by
 obtain ⟨s,ts,g,gw,cw⟩:=S;obtain ⟨s',ts',g',gw',cw'⟩:=S'
 simp only at h1 h2
 subst h1 h2;exact ⟨fun _=>rfl,fun _=>rfl,Nat.le_refl _⟩
theorem NY {s:ByteArray} {x y:Pb} {n m:Nat} (h:ru s x n) (k:ru s y m):x=y∧n=m:=by
 obtain ⟨_,S,a1,a2,a3,a4⟩:=h;obtain ⟨_,S',b1,b2,b3,b4⟩:=k
 have:=uw (zT (S:=S) (S':=S') (by rw [a1,b1]) (by rw [a2,b2])) a3 (by rw [a2,a1])
 rw [a4,b4] at this
 injection this with e1 e2
 exact ⟨e1.symm,e2.symm⟩
theorem Jl {s:ByteArray} {x:Pb} {n:Nat} {a c:Int} (h:ru s x n) (k:jw s a c):False:=by
 obtain ⟨h0,S,a1,a2,a3,a4⟩:=h
 rcases k with ⟨h1,_⟩ | ⟨_,S',b1,b2,b3,⟨m,h1,_⟩ | ⟨m,h1,_⟩⟩
 ·exact h1 h0
 ·have:=uw (zT (S:=S) (S':=S') (by rw [a1,b1]) (by rw [a2,b2])) a3 (by rw [a2,a1])
  rw [a4,h1] at this; cases this
 ·have:=uw (zT (S:=S) (S':=S') (by rw [a1,b1]) (by rw [a2,b2])) a3 (by rw [a2,a1])
  rw [a4,h1] at this; cases this
namespace Inn
def Fin (S:Src) (k n:Nat) {α:Type}:Out α→Prop
 | .ok _ m=>n+k≤m∧m < S.ts.length
 | .form m=>m < S.ts.length
 | .deep m=>m < S.ts.length
 | .dry=>False
theorem Fin.at {S:Src} {a b n m:Nat} {α:Type} {o:Out α} (h:Fin S a m o) (hb:n+b≤m+a):Fin S b n o:=by
 cases o with
 | ok x k=>exact ⟨by have:=h.1; omega,h.2⟩
 | form k=>exact h
 | deep k=>exact h
 | dry=>exact h
theorem Fin.le {S:Src} {a b n:Nat} {α:Type} {o:Out α} (h:Fin S a n o) (hb:b≤a):Fin S b n o:=h.at (by omega)
theorem ah {S:Src} {a b c n:Nat} {α β:Type} {o:Out α} {f:α→Nat→Out β} (h:Fin S a n o) (hc:c≤a+b) (hf:∀ x m,n+a≤m→m < S.ts.length→Fin S b m (f x m)):Fin S c n (o.bind f):=by
 cases o with
 | ok x m=>exact (hf x m h.1 h.2).at (by have:n+a≤m:=h.1; omega)
 | form m=>exact h
 | deep m=>exact h
 | dry=>exact h
theorem aB {S:Src} {k n m:Nat} {α:Type} {x:α} (h:n+k≤m) (hm:m < S.ts.length):Fin S k n (.ok x m):=⟨h,hm⟩
theorem aG {S:Src} {k n:Nat} {α:Type} {c:Bool} {a b:Out α} (ha:c=true→Fin S k n a) (hb:c=false→Fin S k n b):Fin S k n (bif c then a else b):=by
 cases c
 ·exact hb rfl
 ·exact ha rfl
section
variable {S:Src} (g:S.Good)
include g
theorem aN {t:List UInt8} (ht:t≠[]) {n:Nat} (hn:n < S.ts.length):Fin S 1 n (S.need t n):=by
 unfold Src.need;exact aG (fun h=>aB (Nat.le_refl _) (g.more hn ht h)) (fun _=>by show _ < S.ts.length; omega)
theorem bz {ks:List Int} (hz:ks.contains 0=false) {n:Nat} (hn:n < S.ts.length):Fin S 1 n (S.take ks n):=by
 unfold Src.take;refine aG (fun h=>aB (Nat.le_refl _) (g.moreK hn (fun e=>?_))) (fun _=>by show _ < S.ts.length; omega)
 rw [e,hz] at h; cases h
theorem ul {ks:List Int} (hz:ks.contains 0=false):∀ (f:Nat) (acc:List Nat) (n:Nat),n < S.ts.length→S.ts.length < f+n+1→Fin S 0 n (S.pathL ks f acc n):=by
 intro f
 induction f with
 | zero=>intro acc n hn hf; omega
 | succ f ih =>
  intro acc n hn hf;unfold Src.pathL;refine aG (fun h=>?_) (fun _=>aB (Nat.le_refl _) hn)
  simp only [Bool.and_eq_true] at h;have h1:=g.more hn (by simp) h.2;refine (ah (bz g hz h1) (c:=1) (b:=0) (by omega) (fun x m hm hl=>ih _ m hl (by omega))).at (by omega)
theorem gG {ks:List Int} (hz:ks.contains 0=false) {n:Nat} (hn:n < S.ts.length):Fin S 1 n (S.path ks n):=by
 unfold Src.path;exact ah (bz g hz hn) (by omega) (fun x m hm hl=>ul g hz _ _ m hl (by omega))
theorem eY {n:Nat} (hn:n < S.ts.length):Fin S 1 n (S.typePath n):=by
 unfold Src.typePath;exact ah (gG g (by decide) hn) (b:=0) (by omega) (fun x m hm hl=>aG (fun _=>aB (by omega) hl) (fun _=>by show _ < S.ts.length; omega))
theorem jR {n:Nat} (hn:n < S.ts.length):Fin S 1 n (S.value n):=by
 unfold Src.value;refine aG (fun h=>?_) (fun _=>bz g (by decide) hn)
 exact (bz g (by decide) (g.more hn (by simp) h)).at (by omega)
theorem vW {mark:List UInt8} (hm:mark≠[]) {read:Nat→Out Pb} (hr:∀ k,k < S.ts.length→Fin S 1 k (read k)):∀ (f:Nat) (acc:List Pb) (n:Nat),n < S.ts.length→S.ts.length < f+n+1→Fin S 0 n (lJ S mark read f acc n):=by
 intro f
 induction f with
 | zero=>intro acc n hn hf; omega
 | succ f ih =>
  intro acc n hn hf;unfold lJ;refine aG (fun h=>?_) (fun _=>aB (Nat.le_refl _) hn)
  have h1:=g.more hn hm h;exact (ah (hr _ h1) (c:=1) (b:=0) (by omega) (fun x m hm hl=>ih _ m hl (by omega))).at (by omega)
theorem fH {F:Nat} (hF:S.ts.length≤F) {mark:List UInt8} (hm:mark≠[]) {read:Nat→Out Pb} (hr:∀ k,k < S.ts.length→Fin S 1 k (read k)) {n:Nat} (hn:n < S.ts.length):Fin S 1 n (gI S F mark read n):=by
 unfold gI;exact ah (hr n hn) (by omega) (fun x m hm2 hl=>vW g hm hr _ _ m hl (by omega))
section
variable {F:Nat} (hF:S.ts.length≤F) {rec:Nt→Nat→Nat→Out Pb} {d:Nat} (hrec:∀ nt k,k < S.ts.length→S.may nt k→Fin S 1 k (rec nt d k))
include hF hrec
theorem lZ {n:Nat} (hn:n < S.ts.length):Fin S 1 n (dF S F rec d n):=by
 unfold dF;refine aG (fun h=>aB (by omega) (g.moreK hn (by have:=beq_iff_eq.1 h; omega))) (fun _=>aG (fun h=>?_) (fun _=>?_))
 ·have h1:=g.more hn (by simp) h
  refine (ah (fH g hF (by simp) (fun k hk=>hrec .ty k hk trivial) h1) (c:=0) (b:=0) (by omega) (fun l m hm hl=>?_)).at (by omega)
  refine (ah (aN g (by simp) hl) (b:=0) (by omega) (fun u m2 hm2 hl2=>?_))
  unfold qB
  split
  ·exact aB (by omega) hl2
  ·exact ah (eY g hl2) (b:=0) (by omega) (fun p m3 oN hl3=>aB (by omega) hl3)
 ·exact ah (eY g hn) (b:=0) (by omega) (fun p m3 oN hl3=>aB (by omega) hl3)
theorem nP (n:Nat):∀ (f:Nat) (b:Pb) (m:Nat),m < S.ts.length→S.ts.length < f+m+1→Fin S 0 m (dG S n f b m):=by
 have _:=hF;have _:=hrec;intro f
 induction f with
 | zero=>intro b m hn hf; omega
 | succ f ih =>
  intro b m hn hf;unfold dG;refine aG (fun h=>?_) (fun _=>aB (Nat.le_refl _) hn)
  exact ah (eY g hn) (b:=0) (by omega) (fun p m1 hm hl=>ih _ m1 hl (by omega))
theorem oq {n:Nat} (hn:n < S.ts.length):Fin S 1 n (cZ S F rec d n):=by
 unfold cZ;exact ah (lZ g hF hrec hn) (b:=0) (by omega) (fun b m hm hl=>nP g hF hrec n _ _ m hl (by omega))
theorem nS {n:Nat} (hn:n < S.ts.length):Fin S 1 n (dS S F rec d n):=by
 unfold dS;exact ah (fH g hF (by simp) (fun k hk=>oq g hF hrec hk) hn) (b:=0) (by omega) (fun l m hm hl=>aB (by omega) hl)
theorem Az {n:Nat} (hn:n < S.ts.length):Fin S 1 n (tyO S F rec d n):=by
 unfold tyO;refine ah (nS g hF hrec hn) (b:=0) (by omega) (fun b m hm hl=>aG (fun h=>?_) (fun _=>aB (by omega) hl))
 exact (ah (hrec .ty _ (g.more hl (by simp) h) trivial) (b:=0) (c:=0) (by omega) (fun c m2 hm2 hl2=>aB (by omega) hl2)).at (by omega)
omit hrec in
theorem rf (fr:Nat) {member:Nat→Out Pb} (hm:∀ k,k < S.ts.length→Fin S 1 k (member k)) {n:Nat} (hn:n < S.ts.length):Fin S 1 n (iy S F fr member n):=by
 unfold iy;refine aG (fun h=>aB (by omega) (g.more hn (by simp) h)) (fun _=>?_)
 refine ah (fH g hF (by simp) hm hn) (b:=0) (by omega) (fun l m hm hl=>?_)
 exact ah (aN g (by simp) hl) (b:=0) (by omega) (fun u m2 hm2 hl2=>aB (by omega) hl2)
omit hrec in
theorem lh (named:Int) {member:Nat→Out Pb} (hm:∀ k,k < S.ts.length→Fin S 1 k (member k)) {n:Nat} (hn:n < S.ts.length):Fin S 1 n (plainO S F named member n):=by
 unfold plainO;refine aG (fun h=>aB (by omega) (g.moreK hn (by have:=beq_iff_eq.1 h; omega))) (fun _=>aG (fun h=>aB (by omega) (g.moreK hn (by have:=beq_iff_eq.1 h; omega))) (fun _=>aG (fun h=>?_) (fun _=>?_)))
 ·exact (rf g hF n hm (g.more hn (by simp) h)).at (by omega)
 ·exact ah (jR g hn) (b:=0) (by omega) (fun p m3 oN hl3=>aB (by omega) hl3)
theorem dO {n:Nat} (hn:n < S.ts.length):Fin S 1 n (bQ S F rec d n):=by
 unfold bQ;refine aG (fun h=>aB (by omega) (g.more hn (by simp) h)) (fun _=>aG (fun h=>?_) (fun _=>lh g hF 39 (fun k hk=>hrec .pat k hk trivial) hn))
 exact ah (gG g (by decide) hn) (b:=0) (by omega) (fun p m3 oN hl3=>aB (by omega) hl3)
theorem wI {n:Nat} (hn:n < S.ts.length):Fin S 1 n (oH S F rec d n):=by
 unfold oH;refine aG (fun h=>?_) (fun _=>aG (fun h=>?_) (fun _=>dO g hF hrec hn))
 ·simp only [Bool.and_eq_true,beq_iff_eq] at h
  have h1:=g.moreK hn (by omega);have h2:=g.more h1 (by simp) h.2;exact (ah (hrec .pat _ h2 trivial) (b:=0) (c:=0) (by omega) (fun c m2 hm2 hl2=>aB (by omega) hl2)).at (by omega)
 ·refine ah (gG g (by decide) hn) (b:=0) (by omega) (fun p m hm hl=>aG (fun _=>?_) (fun _=>aB (by omega) hl))
  exact ah (dO g hF hrec hl) (b:=0) (by omega) (fun p m3 oN hl3=>aB (by omega) hl3)
theorem uF (a:Nat):∀ (f:Nat) (acc:List Pb) (n:Nat),n < S.ts.length→S.ts.length < f+n+1→Fin S 0 n (jE S rec d a f acc n):=by
 have _:=hF;intro f
 induction f with
 | zero=>intro acc n hn hf; omega
 | succ f ih =>
  intro acc n hn hf;unfold jE;refine aG (fun h=>?_) (fun _=>aG (fun h=>?_) (fun _=>aB (Nat.le_refl _) hn))
  ·exact (ih acc (n+1) (g.more hn (by simp) h) (by omega)).at (by omega)
  ·exact ah (hrec (.dec a) n hn h) (b:=0) (by omega) (fun x m hm hl=>ih _ m hl (by omega))
theorem jH (a:Nat) {n:Nat} (hn:n < S.ts.length):Fin S 0 n (gZ S F rec d a n):=uF g hF hrec a _ _ n hn (by omega)
theorem iJ (a:Nat) {n:Nat} (hn:n < S.ts.length):Fin S 0 n (fA S F rec d a n):=by
 unfold fA;exact ah (jH g hF hrec a hn) (b:=0) (by omega) (fun l m hm hl=>aB (by omega) hl)
theorem mX {n:Nat} (hn:n < S.ts.length):Fin S 1 n (iE S F rec d n):=by
 unfold iE;refine aG (fun h=>?_) (fun _=>aG (fun h=>?_) (fun _=>lh g hF 28 (fun k hk=>hrec .exp k hk trivial) hn))
 ·exact ah (gG g (by decide) hn) (b:=0) (by omega) (fun p m hm hl=>aG (fun _=>aB (by omega) hl) (fun _=>aB (by omega) hl))
 ·have h1:=g.more hn (by simp) h
  refine (ah (iJ g hF hrec 0 h1) (b:=0) (c:=0) (by omega) (fun ds m hm hl=>?_)).at (by omega)
  refine ah (aN g (by simp) hl) (b:=0) (by omega) (fun u m2 hm2 hl2=>?_)
  refine ah (hrec .exp _ hl2 trivial) (b:=0) (by omega) (fun e m3 oN hl3=>?_)
  exact ah (aN g (by simp) hl3) (b:=0) (by omega) (fun u m4 hm4 hl4=>aB (by omega) hl4)
theorem ut:∀ (f:Nat) (acc:List Pb) (n:Nat),n < S.ts.length→S.ts.length < f+n+1→Fin S 0 n (jc S F rec d f acc n):=by
 intro f
 induction f with
 | zero=>intro acc n hn hf; omega
 | succ f ih =>
  intro acc n hn hf;unfold jc;refine aG (fun h=>?_) (fun _=>aB (Nat.le_refl _) hn)
  exact ah (mX g hF hrec hn) (b:=0) (by omega) (fun x m hm hl=>ih _ m hl (by omega))
theorem mM {n:Nat} (hn:n < S.ts.length):Fin S 1 n (jD S F rec d n):=by
 unfold jD;refine ah (mX g hF hrec hn) (b:=0) (by omega) (fun b m hm hl=>?_)
 exact ah (ut g hF hrec _ _ m hl (by omega)) (b:=0) (by omega) (fun l m2 hm2 hl2=>aB (by omega) hl2)
theorem qO:∀ (f:Nat) (sg:List Nat) (acc:List Pb) (n:Nat),n < S.ts.length→S.ts.length < f+n+1→Fin S 0 n (iO S F rec d f sg acc n):=by
 intro f
 induction f with
 | zero=>intro sg acc n hn hf; omega
 | succ f ih =>
  intro sg acc n hn hf;unfold iO;refine aG (fun h=>?_) (fun _=>aB (Nat.le_refl _) hn)
  refine ah (bz g (by decide) hn) (b:=0) (by omega) (fun x m hm hl=>?_)
  exact ah (mM g hF hrec hl) (b:=0) (by omega) (fun x m2 hm2 hl2=>ih _ _ m2 hl2 (by omega))
theorem qZ {n:Nat} (hn:n < S.ts.length):Fin S 1 n (gz S F rec d n):=by
 unfold gz;refine ah (mM g hF hrec hn) (b:=0) (by omega) (fun b m hm hl=>?_)
 exact ah (qO g hF hrec _ _ _ m hl (by omega)) (b:=0) (by omega) (fun l m2 hm2 hl2=>aB (by omega) hl2)
theorem kH (k:Int) (fr:Nat) {n:Nat} (hn:n < S.ts.length):Fin S 1 n (fB S rec d k fr n):=by
 have _:=hF;unfold fB;refine ah (hrec .pat _ hn trivial) (b:=0) (by omega) (fun p m hm hl=>?_)
 refine ah (aN g (by simp) hl) (b:=0) (by omega) (fun u m2 hm2 hl2=>?_)
 exact ah (hrec .exp _ hl2 trivial) (b:=0) (by omega) (fun e m3 oN hl3=>aB (by omega) hl3)
theorem xU {n:Nat} (hn:n < S.ts.length):Fin S 1 n (yC S rec d n):=kH g hF hrec 33 n hn
theorem xZ {n:Nat} (hn:n < S.ts.length):Fin S 1 n (oD S F rec d n):=by
 unfold oD;refine aG (fun h=>?_) (fun _=>aG (fun h=>?_) (fun _=>aG (fun h=>?_) (fun _=>qZ g hF hrec hn)))
 ·have h1:=g.more hn (by simp) h
  refine (ah (hrec .exp _ h1 trivial) (b:=0) (c:=0) (by omega) (fun a m hm hl=>?_)).at (by omega)
  refine ah (aN g (by simp) hl) (b:=0) (by omega) (fun u m2 hm2 hl2=>?_)
  refine ah (hrec .exp _ hl2 trivial) (b:=0) (by omega) (fun a m3 oN hl3=>?_)
  refine ah (aN g (by simp) hl3) (b:=0) (by omega) (fun u m4 hm4 hl4=>?_)
  exact ah (hrec .exp _ hl4 trivial) (b:=0) (by omega) (fun a m5 vP hl5=>aB (by omega) hl5)
 ·have h1:=g.more hn (by simp) h
  refine (ah (hrec .exp _ h1 trivial) (b:=0) (c:=0) (by omega) (fun a m hm hl=>?_)).at (by omega)
  refine ah (aN g (by simp) hl) (b:=0) (by omega) (fun u m2 hm2 hl2=>?_)
  exact ah (fH g hF (by simp) (fun k hk=>xU g hF hrec hk) hl2) (b:=0) (by omega) (fun a m3 oN hl3=>aB (by omega) hl3)
 ·exact (kH g hF hrec 34 n (g.more hn (by simp) h)).at (by omega)
omit hF hrec in
theorem ui:∀ (f:Nat) (n:Nat),n < S.ts.length→S.ts.length < f+n+1→Fin S 0 n (jv S f n):=by
 intro f
 induction f with
 | zero=>intro n hn hf; omega
 | succ f ih =>
  intro n hn hf;unfold jv;refine aG (fun h=>?_) (fun _=>aB (Nat.le_refl _) hn)
  exact (ah (bz g (by decide) (g.more hn (by simp) h)) (b:=0) (c:=0) (by omega) (fun x m hm hl=>ih m hl (by omega))).at (by omega)
omit hrec in
theorem gy {n:Nat} (hn:n < S.ts.length):Fin S 1 n (bT S F n):=by
 unfold bT;refine aG (fun h=>?_) (fun _=>aG (fun h=>?_) (fun _=>bz g (by decide) hn))
 ·exact (bz g (by decide) (g.moreK hn (by have:=beq_iff_eq.1 h; omega))).at (by omega)
 ·refine (ah (bz g (by decide) (g.more hn (by simp) h)) (b:=0) (c:=0) (by omega) (fun x m hm hl=>?_)).at (by omega)
  refine ah (ui g _ m hl (by omega)) (b:=0) (by omega) (fun u m2 hm2 hl2=>?_)
  refine ah (aN g (by simp) hl2) (b:=0) (by omega) (fun u m3 oN hl3=>?_)
  exact (bz g (by decide) hl3).le (by omega)
theorem xK {n:Nat} (hn:n < S.ts.length):Fin S 1 n (lW S rec d n):=by
 have _:=hF;unfold lW;refine ah (bz g (by decide) hn) (b:=0) (by omega) (fun x m hm hl=>aG (fun h=>?_) (fun _=>aB (by omega) hl))
 exact (ah (hrec .ty _ (g.more hl (by simp) h) trivial) (b:=0) (c:=0) (by omega) (fun c m2 hm2 hl2=>aB (by omega) hl2)).at (by omega)
theorem rO {n:Nat} (hn:n < S.ts.length):Fin S 1 n (fV S F rec d n):=by
 unfold fV;refine ah (gy g hF hn) (b:=0) (by omega) (fun x m hm hl=>?_)
 refine ah (aN g (by simp) hl) (b:=0) (by omega) (fun u m2 hm2 hl2=>?_)
 exact ah (fH g hF (by simp) (fun k hk=>xK g hF hrec hk) hl2) (b:=0) (by omega) (fun a m3 oN hl3=>aB (by omega) hl3)
theorem iH (fr:Nat) {n:Nat} (hn:n < S.ts.length):Fin S 1 n (bU S F rec d fr n):=by
 unfold bU;exact ah (fH g hF (by simp) (fun k hk=>rO g hF hrec hk) hn) (b:=0) (by omega) (fun a m3 oN hl3=>aB (by omega) hl3)
theorem uH {n:Nat} (hn:n < S.ts.length):Fin S 1 n (jF S F rec d n):=by
 unfold jF;refine aG (fun h=>?_) (fun _=>aG (fun h=>?_) (fun _=>aG (fun h=>?_) (fun _=>aG (fun h=>?_) (fun _=>?_))))
 ·refine (ah (jR g (g.more hn (by simp) h)) (b:=0) (c:=0) (by omega) (fun x m hm hl=>?_)).at (by omega)
  refine ah (aN g (by simp) hl) (b:=0) (by omega) (fun u m2 hm2 hl2=>?_)
  exact ah (hrec .ty _ hl2 trivial) (b:=0) (by omega) (fun a m5 vP hl5=>aB (by omega) hl5)
 ·refine (ah (gy g hF (g.more hn (by simp) h)) (b:=0) (c:=0) (by omega) (fun x m hm hl=>aG (fun h=>?_) (fun _=>aB (by omega) hl))).at (by omega)
  exact (ah (hrec .ty _ (g.more hl (by simp) h) trivial) (b:=0) (c:=0) (by omega) (fun c m2 hm2 hl2=>aB (by omega) hl2)).at (by omega)
 ·exact (iH g hF hrec n (g.more hn (by simp) h)).at (by omega)
 ·refine (ah (bz g (by decide) (g.more hn (by simp) h)) (b:=0) (c:=0) (by omega) (fun x m hm hl=>?_)).at (by omega)
  refine ah (aN g (by simp) hl) (b:=0) (by omega) (fun u m2 hm2 hl2=>?_)
  exact ah (hrec .sig _ hl2 trivial) (b:=0) (by omega) (fun a m5 vP hl5=>aB (by omega) hl5)
 ·refine ah (aN g (by simp) hn) (b:=0) (by omega) (fun u m2 hm2 hl2=>?_)
  exact ah (hrec .sig _ hl2 trivial) (b:=0) (by omega) (fun a m5 vP hl5=>aB (by omega) hl5)
theorem qP:∀ (f:Nat) (acc:List Pb) (n:Nat),n < S.ts.length→S.ts.length < f+n+1→Fin S 0 n (iC S F rec d f acc n):=by
 intro f
 induction f with
 | zero=>intro acc n hn hf; omega
 | succ f ih =>
  intro acc n hn hf;unfold iC;refine aG (fun h=>aB (by omega) (g.more hn (by simp) h)) (fun _=>aG (fun h=>?_) (fun _=>?_))
  ·exact (ih acc (n+1) (g.more hn (by simp) h) (by omega)).at (by omega)
  ·exact ah (uH g hF hrec hn) (b:=0) (by omega) (fun x m hm hl=>ih _ m hl (by omega))
theorem nH {n:Nat} (hn:n < S.ts.length):Fin S 1 n (dY S F rec d n):=by
 unfold dY;refine aG (fun h=>?_) (fun _=>?_)
 ·have h1:=g.more hn (by simp) h
  exact (ah (qP g hF hrec _ _ (n+1) h1 (by omega)) (b:=0) (c:=0) (by omega) (fun a m5 vP hl5=>aB (by omega) hl5)).at (by omega)
 ·exact ah (bz g (by decide) hn) (b:=0) (by omega) (fun a m5 vP hl5=>aB (by omega) hl5)
theorem rM (fr:Nat):∀ (f:Nat) (b:Pb) (n:Nat),n < S.ts.length→S.ts.length < f+n+1→Fin S 0 n (iM S rec d fr f b n):=by
 have _:=hF;intro f
 induction f with
 | zero=>intro b n hn hf; omega
 | succ f ih =>
  intro b n hn hf;unfold iM;refine aG (fun h=>?_) (fun _=>aB (Nat.le_refl _) hn)
  have h1:=g.more hn (by simp) h;refine (ah (aN g (by simp) h1) (b:=0) (c:=0) (by omega) (fun u m hm hl=>?_)).at (by omega)
  refine ah (eY g hl) (b:=0) (by omega) (fun p m2 hm2 hl2=>?_)
  refine ah (aN g (by simp) hl2) (b:=0) (by omega) (fun u m3 oN hl3=>?_)
  exact ah (hrec .ty _ hl3 trivial) (b:=0) (by omega) (fun c m4 hm4 hl4=>ih _ m4 hl4 (by omega))
theorem wu {n:Nat} (hn:n < S.ts.length):Fin S 1 n (nJ S F rec d n):=by
 unfold nJ;exact ah (nH g hF hrec hn) (b:=0) (by omega) (fun b m hm hl=>rM g hF hrec n _ _ m hl (by omega))
theorem oz {n:Nat} (hn:n < S.ts.length):Fin S 1 n (dW S F rec d n):=by
 unfold dW;refine aG (fun h=>?_) (fun _=>aG (fun h=>?_) (fun _=>?_))
 ·refine (ah (jH g hF hrec 1 (g.more hn (by simp) h)) (b:=0) (c:=0) (by omega) (fun l m hm hl=>?_)).at (by omega)
  exact ah (aN g (by simp) hl) (b:=0) (by omega) (fun u m2 hm2 hl2=>aB (by omega) hl2)
 ·simp only [Bool.and_eq_true,beq_iff_eq] at h
  have h1:=g.moreK hn (by omega);have h2:=g.more h1 (by simp) h.2;refine (ah (hrec .str _ h2 trivial) (b:=0) (c:=0) (by omega) (fun c m2 hm2 hl2=>?_)).at (by omega)
  exact ah (aN g (by simp) hl2) (b:=0) (by omega) (fun u m3 oN hl3=>aB (by omega) hl3)
 ·exact ah (gG g (by decide) hn) (b:=0) (by omega) (fun p m hm hl=>aB (by omega) hl)
theorem uG (fr:Nat):∀ (f:Nat) (b:Pb) (n:Nat),n < S.ts.length→S.ts.length < f+n+1→Fin S 0 n (jZ S rec d fr f b n):=by
 have _:=hF;intro f
 induction f with
 | zero=>intro b n hn hf; omega
 | succ f ih =>
  intro b n hn hf;unfold jZ;refine aG (fun _=>aB (Nat.le_refl _) hn) (fun h=>?_)
  have h2:=(iq g hn).2.2.1 (by simpa using h);have h1:=(iq g hn).1;rw [h2] at h1;exact (ah (hrec .sig _ h1 trivial) (b:=0) (c:=0) (by omega) (fun c m4 hm4 hl4=>ih _ m4 hl4 (by omega))).at (by omega)
theorem xO {n:Nat} (hn:n < S.ts.length):Fin S 1 n (nV S F rec d n):=by
 unfold nV;exact ah (oz g hF hrec hn) (b:=0) (by omega) (fun b m hm hl=>uG g hF hrec n _ _ m hl (by omega))
theorem mF {n:Nat} (hn:n < S.ts.length):Fin S 1 n (jA S rec d n):=by
 have _:=hF;unfold jA;refine ah (a:=0) (b:=1) (aG (fun _=>aB (Nat.le_refl _) hn) (fun h=>?_)) (by omega) (fun l m hm hl=>?_)
 ·have h2:=(iq g hn).2.2.1 (by simpa using h)
  have h1:=(iq g hn).1;rw [h2] at h1;exact (ah (hrec .sig _ h1 trivial) (b:=0) (c:=0) (by omega) (fun c m4 hm4 hl4=>aB (by omega) hl4)).at (by omega)
 ·refine ah (aN g (by simp) hl) (b:=0) (by omega) (fun u m2 hm2 hl2=>?_)
  exact ah (hrec .str _ hl2 trivial) (b:=0) (by omega) (fun c m4 hm4 hl4=>aB (by omega) hl4)
theorem lq (fr:Nat) {n:Nat} (hn:n < S.ts.length):Fin S 1 n (cu S rec d fr n):=by
 unfold cu;refine ah (bz g (by decide) hn) (b:=0) (by omega) (fun x m hm hl=>?_)
 exact ah (mF g hF hrec hl) (b:=0) (by omega) (fun c m4 hm4 hl4=>aB (by omega) hl4)
theorem og (fr:Nat) {n:Nat} (hn:n < S.ts.length):Fin S 1 n (dU S rec d fr n):=by
 unfold dU;refine ah (bz g (by decide) hn) (b:=0) (by omega) (fun x m hm hl=>?_)
 refine ah (aN g (by simp) hl) (b:=0) (by omega) (fun u m2 hm2 hl2=>?_)
 refine ah (bz g (by decide) hl2) (b:=0) (by omega) (fun x m3 oN hl3=>?_)
 refine ah (aN g (by simp) hl3) (b:=0) (by omega) (fun u m4 hm4 hl4=>?_)
 refine ah (hrec .sig _ hl4 trivial) (b:=0) (by omega) (fun c m5 vP hl5=>?_)
 refine ah (aN g (by simp) hl5) (b:=0) (by omega) (fun u m6 hm6 YP=>?_)
 exact ah (mF g hF hrec YP) (b:=0) (by omega) (fun c m7 hm7 YQ=>aB (by omega) YQ)
theorem vV:∀ (f:Nat) (acc:List Pb) (n:Nat),n < S.ts.length→S.ts.length < f+n+1→Fin S 0 n (pg S F rec d f acc n):=by
 intro f
 induction f with
 | zero=>intro acc n hn hf; omega
 | succ f ih =>
  intro acc n hn hf;unfold pg;refine aG (fun h=>?_) (fun _=>aB (Nat.le_refl _) hn)
  exact ah (dO g hF hrec hn) (b:=0) (by omega) (fun x m hm hl=>ih _ m hl (by omega))
theorem mg {n:Nat} (hn:n < S.ts.length):Fin S 1 n (cO S F rec d n):=by
 unfold cO;refine ah (jR g hn) (b:=0) (by omega) (fun x m hm hl=>?_)
 refine ah (dO g hF hrec hl) (b:=0) (by omega) (fun x m2 hm2 hl2=>?_)
 refine ah (vV g hF hrec _ _ m2 hl2 (by omega)) (b:=0) (by omega) (fun x m3 oN hl3=>?_)
 refine ah (aN g (by simp) hl3) (b:=0) (by omega) (fun u m4 hm4 hl4=>?_)
 exact ah (hrec .exp _ hl4 trivial) (b:=0) (by omega) (fun c m5 vP hl5=>aB (by omega) hl5)
theorem rD (fr a:Nat) {n:Nat} (hn:n < S.ts.length):Fin S 1 n (iw S F rec d fr a n):=by
 unfold iw;refine ah (iJ g hF hrec a hn) (b:=1) (by omega) (fun x m hm hl=>?_)
 refine ah (aN g (by simp) hl) (b:=0) (by omega) (fun u m2 hm2 hl2=>?_)
 refine ah (iJ g hF hrec a hl2) (b:=0) (by omega) (fun x m3 oN hl3=>?_)
 exact ah (aN g (by simp) hl3) (b:=0) (by omega) (fun u m4 hm4 hl4=>aB (by omega) hl4)
theorem xH (a:Nat) {n:Nat} (hn1:n+1 < S.ts.length):Fin S 1 n (nX S F rec d a n):=by
 unfold nX;refine aG (fun h=>?_) (fun _=>aG (fun h=>?_) (fun _=>aG (fun h=>?_) (fun _=>aG (fun h=>?_) (fun _=>aG (fun h=>?_) (fun _=>aG (fun h=>?_) (fun _=>aG (fun h=>?_) (fun _=>aG (fun h=>?_) (fun _=>?_))))))))
 ·refine (ah (hrec .pat _ hn1 trivial) (b:=0) (c:=0) (by omega) (fun x m hm hl=>?_)).at (by omega)
  refine ah (aN g (by simp) hl) (b:=0) (by omega) (fun u m2 hm2 hl2=>?_)
  exact ah (hrec .exp _ hl2 trivial) (b:=0) (by omega) (fun c m5 vP hl5=>aB (by omega) hl5)
 ·exact (ah (fH g hF (by simp) (fun k hk=>mg g hF hrec hk) hn1) (b:=0) (c:=0) (by omega) (fun a m3 oN hl3=>aB (by omega) hl3)).at (by omega)
 ·refine (ah (gy g hF hn1) (b:=0) (c:=0) (by omega) (fun x m hm hl=>?_)).at (by omega)
  refine ah (aN g (by simp) hl) (b:=0) (by omega) (fun u m2 hm2 hl2=>?_)
  exact ah (hrec .ty _ hl2 trivial) (b:=0) (by omega) (fun c m5 vP hl5=>aB (by omega) hl5)
 ·exact (iH g hF hrec n hn1).at (by omega)
 ·exact (lq g hF hrec n hn1).at (by omega)
 ·refine (ah (bz g (by decide) hn1) (b:=0) (c:=0) (by omega) (fun x m hm hl=>?_)).at (by omega)
  refine ah (aN g (by simp) hl) (b:=0) (by omega) (fun u m2 hm2 hl2=>?_)
  exact ah (hrec .sig _ hl2 trivial) (b:=0) (by omega) (fun c m5 vP hl5=>aB (by omega) hl5)
 ·exact (og g hF hrec n hn1).at (by omega)
 ·exact (ah (gG g (by decide) hn1) (b:=0) (c:=0) (by omega) (fun c m5 vP hl5=>aB (by omega) hl5)).at (by omega)
 ·exact (rD g hF hrec n a hn1).at (by omega)
end
theorem uq:∀ (f:Nat) (nt:Nt) (d n:Nat),d≤256→n < S.ts.length→S.may nt n→S.ts.length+257≤f+d→Fin S 1 n (parts S f nt d n):=by
 intro f
 induction f with
 | zero=>intro nt d n hd hn _ hf; omega
 | succ f ih =>
  intro nt d n hd hn hmay hf;unfold parts;refine aG (fun _=>by show _ < S.ts.length; omega) (fun h=>?_)
  have h256:d≠256:=by simpa using h
  have hrec:∀ nt k,k < S.ts.length→S.may nt k→Fin S 1 k (parts S f nt (d+1) k):=fun nt k hk hm=>ih nt (d+1) k (by omega) hk hm (by omega)
  have hF:S.ts.length≤f:=by omega
  cases nt with
  | exp=>exact xZ g hF hrec hn
  | pat=>exact wI g hF hrec hn
  | ty=>exact Az g hF hrec hn
  | sig=>exact wu g hF hrec hn
  | str=>exact xO g hF hrec hn
  | dec a=>exact xH g hF hrec a (mf g hn hmay)
theorem uk {F:Nat} (hF:S.ts.length+257≤F) {n:Nat} (hn:n < S.ts.length):Fin S 0 n (jk S F n):=by
 unfold jk;exact ah (jH g (F:=F) (by omega) (rec:=parts S F) (d:=0) (fun nt k hk hm=>uq g F nt 0 k (by omega) hk hm (by omega)) 2 hn) (b:=0) (by omega) (fun l m hm hl=>aB (by omega) hl)
end
end Inn
end Go.Proofs.YtmpmfamiegpmgaaGreatDoor
