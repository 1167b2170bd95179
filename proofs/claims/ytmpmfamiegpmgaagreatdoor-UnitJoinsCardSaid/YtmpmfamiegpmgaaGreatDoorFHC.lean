/-
  The plain parser goes the same way on tokens that stand further on.; A text with blanks and a note between its tokens has the same tokens: plain facts.; The plain parser goes the same way on tokens that stand further on: each part.; Bytes ahead that say nothing: the tokens behind them are the same, each so many bytes on.; Where a text is no part, the place is within: so much more than the same names outside say.
-/
import Derived.Test.YtmpmfamiegpmgaaGreatDoorFE
import Derived.Test.YtmpmfamiegpmgaaGreatDoorFK
import Derived.Test.YtmpmfamiegpmgaaGreatDoorFG
import Derived.Test.YtmpmfamiegpmgaaGreatDoorFY
import Derived.Test.YtmpmfamiegpmgaaGreatDoorFS
namespace Go.Proofs.YtmpmfamiegpmgaaGreatDoor
open Go.RowKit
set_option linter.unusedVariables false
set_option linter.unusedSimpArgs false
mutual
def Pb.on (k:Nat):Pb→Pb
 | .mk a m f t ns ks=>.mk a m (f+k) (t+k) (ns.map fun x=>x+k) (onL k ks)
def onL (k:Nat):List Pb→List Pb
 | []=>[]
 | b :: r=>b.on k :: onL k r
end
theorem Qj (k:Nat) (l:List Pb):onL k l=l.map (Pb.on k):=by
 induction l with
 | nil=>rfl
 | cons x r ih=>simp only [onL,List.map_cons,ih]
def Out.on {α:Type} (k:Nat) (g:α→α):Out α→Out α
 | .ok a n=>.ok (g a) (n+k)
 | .form n=>.form (n+k)
 | .deep n=>.deep (n+k)
 | .dry=>.dry
def Rel {α:Type} (k:Nat) (g:α→α) (o o':Out α):Prop:=o≠.dry→o'=o.on k g
theorem au {α β:Type} {k:Nat} {g:α→α} {h:β→β} {o o':Out α} {f f':α→Nat→Out β} (ho:Rel k g o o') (hf:∀ x n,o=.ok x n→Rel k h (f x n) (f' (g x) (n+k))):Rel k h (o.bind f) (o'.bind f'):=by
 intro hnd;rw [ho (aF hnd)]
 cases o with
 | ok x n=>exact hf x n rfl hnd
 | form n=>rfl
 | deep n=>rfl
 | dry=>exact absurd rfl hnd
theorem bi {α:Type} {k:Nat} {g:α→α} {c c':Bool} {a b a' b':Out α} (hc:c'=c) (ha:c=true→Rel k g a a') (hb:c=false→Rel k g b b'):Rel k g (bif c then a else b) (bif c' then a' else b'):=by
 subst hc
 cases c'
 ·exact hb rfl
 ·exact ha rfl
theorem aU {α:Type} {k:Nat} {g:α→α} {x x':α} {m m':Nat} (hx:x'=g x) (hm:m'=m+k):Rel k g (.ok x m) (.ok x' m'):=fun _=>by rw [hx,hm]; rfl
theorem wR {α:Type} {k:Nat} {g:α→α} {m m':Nat} (hm:m'=m+k):Rel k g (.form m) (.form m'):=fun _=>by rw [hm]; rfl
theorem aW (k:Nat) (a:Int) (f t:Nat) (ns:List Nat) (ks:List Pb):(node a f t ns ks).on k=node a (f+k) (t+k) (ns.map fun x=>x+k) (ks.map (Pb.on k)):=by
 simp only [node,Pb.on,Qj,Pb.mk.injEq,List.map_map,true_and,and_true];refine ⟨by omega,by omega,?_⟩
 apply List.map_congr_left
 intro x _
 simp
theorem uy (k:Nat) (m:Int) (b:Pb):(marked m b).on k=marked m (b.on k):=by cases b; rfl
theorem sG (k:Nat) (l:List Pb) (a:Int) (f t:Nat) (ns:List Nat):(fP l a f t ns).on k=fP (l.map (Pb.on k)) a (f+k) (t+k) (ns.map fun x=>x+k):=by
 match l with
 | []=>exact aW k a f t ns []
 | [b]=>rfl
 | b :: c :: r=>exact aW k a f t ns (b :: c :: r)
abbrev addN (k:Nat):Nat→Nat:=fun x=>x+k
abbrev Cc (k:Nat):List Nat→List Nat:=List.map (addN k)
structure Sh (S S':Src) (k:Nat):Prop where
 kd:∀ i,S'.kd (i+k)=S.kd i
 tx:∀ i,S'.tx (i+k)=S.tx i
 len:S.ts.length≤S'.ts.length
section
variable {S S':Src} {k:Nat}
theorem Sh.is (H:Sh S S' k) (n:Nat) (t:List UInt8):S'.is (n+k) t=S.is n t:=by unfold Src.is; rw [H.tx]
theorem dB (H:Sh S S' k) (t:List UInt8) (n:Nat):Rel k id (S.need t n) (S'.need t (n+k)):=by
 unfold Src.need;exact bi (H.is n t) (fun _=>aU rfl (by omega)) (fun _=>wR rfl)
theorem fZ (H:Sh S S' k) (ks:List Int) (n:Nat):Rel k (addN k) (S.take ks n) (S'.take ks (n+k)):=by
 unfold Src.take;rw [H.kd];exact bi rfl (fun _=>aU rfl (by omega)) (fun _=>wR rfl)
theorem Eb {ks:List Int} {n x m:Nat} (h:S.take ks n=.ok x m):0 < m:=by
 unfold Src.take at h
 cases hc:ks.contains (S.kd n) <;> rw [hc] at h
 ·cases h
 ·simp only [cond_true,Out.ok.injEq] at h; omega
theorem NM (H:Sh S S' k) (ks:List Int):∀ (f f':Nat) (acc:List Nat) (n:Nat),f≤f'→0 < n→Rel k (Cc k) (S.pathL ks f acc n) (S'.pathL ks f' (Cc k acc) (n+k)):=by
 intro f
 induction f with
 | zero=>intro f' acc n _ _ h; exact absurd rfl h
 | succ f ih =>
  intro f' acc n hf hn;obtain ⟨q,rfl⟩:∃ q,f'=q+1:=⟨f' - 1,by omega⟩
  unfold Src.pathL;rw [show n+k - 1=n - 1+k by omega,H.kd,H.is];refine bi rfl (fun _=>?_) (fun _=>aU rfl rfl)
  rw [Nat.add_right_comm];refine au (fZ H ks (n+1)) (fun x m hx=>?_)
  have:=ih q (acc++[x]) m (by omega) (Eb hx)
  simpa [Cc] using this
theorem qA (H:Sh S S' k) (ks:List Int) (n:Nat):Rel k (Cc k) (S.path ks n) (S'.path ks (n+k)):=by
 unfold Src.path;exact au (fZ H ks n) (fun x m hx=>NM H ks _ _ [x] m H.len (Eb hx))
theorem Dh {ks:List Int} {n m:Nat} {p:List Nat} (h:S.path ks n=.ok p m):0 < m:=by have:=zZ h; omega
theorem kF (H:Sh S S' k) (n:Nat):Rel k (Cc k) (S.typePath n) (S'.typePath (n+k)):=by
 unfold Src.typePath;refine au (qA H [7,6] n) (fun p m hp=>?_)
 have:=Dh hp
 rw [show m+k - 1=m - 1+k by omega,H.kd];exact bi rfl (fun _=>aU rfl rfl) (fun _=>wR rfl)
theorem vY (H:Sh S S' k) (n:Nat):Rel k (addN k) (S.value n) (S'.value (n+k)):=by
 unfold Src.value;exact bi (H.is n _) (fun _=>by rw [Nat.add_right_comm]; exact fZ H _ _) (fun _=>fZ H _ _)
theorem Sh.begins (H:Sh S S' k) (o:List (List UInt8)) (n:Nat):S'.begins o (n+k)=S.begins o n:=by
 unfold Src.begins Src.beginsK;rw [H.kd,H.is,H.is]
 congr 1
 congr 1
 funext t
 exact H.is n t
theorem Sh.colon (H:Sh S S' k) (n:Nat):S'.colon (n+k)=((S.colon n).1,(S.colon n).2+k):=by
 unfold Src.colon;rw [H.is,H.is]
 cases S.is n [58]
 ·cases S.is n [58,62]
  ·rfl
  ·simp; omega
 ·simp; omega
theorem Sh.declares (H:Sh S S' k) (a n:Nat):declares S' a (n+k)=declares S a n:=by
 unfold Go.Proofs.YtmpmfamiegpmgaaGreatDoor.declares;simp only [H.is]
theorem Qp (H:Sh S S' k) (mark:List UInt8) {read read':Nat→Out Pb} (hr:∀ n,Rel k (Pb.on k) (read n) (read' (n+k))):∀ (f f':Nat) (acc:List Pb) (n:Nat),f≤f'→Rel k (List.map (Pb.on k)) (lL S mark read f acc n) (lL S' mark read' f' (acc.map (Pb.on k)) (n+k)):=by
 intro f
 induction f with
 | zero=>intro f' acc n _ h; exact absurd rfl h
 | succ f ih =>
  intro f' acc n hf;obtain ⟨q,rfl⟩:∃ q,f'=q+1:=⟨f' - 1,by omega⟩
  unfold lL;refine bi (H.is n mark) (fun _=>?_) (fun _=>aU rfl rfl)
  rw [Nat.add_right_comm];refine au (hr (n+1)) (fun b m _=>?_)
  have:=ih q (acc++[b]) m (by omega)
  simpa using this
theorem oD (H:Sh S S' k) {F F':Nat} (hF:F≤F') (mark:List UInt8) {read read':Nat→Out Pb} (hr:∀ n,Rel k (Pb.on k) (read n) (read' (n+k))) (n:Nat):Rel k (List.map (Pb.on k)) (gK S F mark read n) (gK S' F' mark read' (n+k)):=by
 unfold gK;exact au (hr n) (fun b m _=>Qp H mark hr F F' [b] m hF)
end
set_option maxRecDepth 20000
abbrev blL:List UInt8:=[32,40,42,32,120,32,40,42,42,41,32,42,41,10]
def spL:List (Int × List UInt8)→List UInt8
 | []=>blL++blL
 | (_,x) :: r=>blL++(x++spL r)
def Own (p:Int × List UInt8):Prop:=p.2≠[]∧bK p.2=(p.1,p.2.length)∧p.1≠3∧p.1≠1∧p.1≠2
def XZ:Nat→List (Int × List UInt8)→List Tok
 | _,[]=>[]
 | a,(k,x) :: r=>⟨k,a+14,a+14+x.length⟩ :: XZ (a+14+x.length) r
def aa5 (s:ByteArray):List (Int × List UInt8):=(kN s).map fun T=>(T.k,(s.extract T.a T.e).data.toList)
section
variable {S S':Src} {k:Nat}
theorem Di (H:Sh S S' k) {F F':Nat} (hF:F≤F') {rec rec':Nt→Nat→Nat→Out Pb} {d:Nat} (hr:∀ nt n,Rel k (Pb.on k) (rec nt d n) (rec' nt d (n+k))) (n:Nat):Rel k (Pb.on k) (dF S F rec d n) (dF S' F' rec' d (n+k)):=by
 unfold dF;refine bi (by rw [H.kd]) (fun _=>aU (by simp [aW,Nat.add_right_comm]) (by omega)) (fun _=>bi (H.is n _) (fun _=>?_) (fun _=>?_))
 ·rw [Nat.add_right_comm]
  refine au (oD H hF [44] (hr .ty) (n+1)) (fun l m _=>?_)
  refine au (dB H [41] m) (fun u m2 _=>?_)
  match l with
  | [b]=>exact aU rfl rfl
  | []=>exact au (kF H m2) (fun p m3 _=>aU (by simp [aW,Nat.add_right_comm]) (by omega))
  | a :: b :: c=>exact au (kF H m2) (fun p m3 _=>aU (by simp [aW,Nat.add_right_comm]) (by omega))
 ·exact au (kF H n) (fun p m3 _=>aU (by simp [aW,Nat.add_right_comm]) (by omega))
theorem DR (H:Sh S S' k) (n:Nat):∀ (f f':Nat) (b:Pb) (m:Nat),f≤f'→Rel k (Pb.on k) (dH S n f b m) (dH S' (n+k) f' (b.on k) (m+k)):=by
 intro f
 induction f with
 | zero=>intro f' b m _ h; exact absurd rfl h
 | succ f ih =>
  intro f' b m hf;obtain ⟨q,rfl⟩:∃ q,f'=q+1:=⟨f' - 1,by omega⟩
  unfold dH;refine bi (by rw [H.kd]) (fun _=>?_) (fun _=>aU rfl rfl)
  refine au (kF H m) (fun p m1 _=>?_)
  have:=ih q (node 42 n m1 p [b]) m1 (by omega)
  rwa [aW] at this
theorem Gz (H:Sh S S' k) {F F':Nat} (hF:F≤F') {rec rec':Nt→Nat→Nat→Out Pb} {d:Nat} (hr:∀ nt n,Rel k (Pb.on k) (rec nt d n) (rec' nt d (n+k))) (n:Nat):Rel k (Pb.on k) (dh S F rec d n) (dh S' F' rec' d (n+k)):=by
 unfold dh;exact au (Di H hF hr n) (fun b m _=>DR H n F F' b m hF)
theorem Gq (H:Sh S S' k) {F F':Nat} (hF:F≤F') {rec rec':Nt→Nat→Nat→Out Pb} {d:Nat} (hr:∀ nt n,Rel k (Pb.on k) (rec nt d n) (rec' nt d (n+k))) (n:Nat):Rel k (Pb.on k) (dX S F rec d n) (dX S' F' rec' d (n+k)):=by
 unfold dX;exact au (oD H hF [42] (fun n=>Gz H hF hr n) n) (fun l m _=>aU (by simp [sG]) rfl)
theorem Yb (H:Sh S S' k) {F F':Nat} (hF:F≤F') {rec rec':Nt→Nat→Nat→Out Pb} {d:Nat} (hr:∀ nt n,Rel k (Pb.on k) (rec nt d n) (rec' nt d (n+k))) (n:Nat):Rel k (Pb.on k) (tyO S F rec d n) (tyO S' F' rec' d (n+k)):=by
 unfold tyO;refine au (Gq H hF hr n) (fun b m _=>bi (H.is m _) (fun _=>?_) (fun _=>aU rfl rfl))
 rw [Nat.add_right_comm];exact au (hr .ty (m+1)) (fun c m2 _=>aU (by simp [aW,Nat.add_right_comm]) (by omega))
theorem Ol (H:Sh S S' k) {F F':Nat} (hF:F≤F') (fr:Nat) {mem mem':Nat→Out Pb} (hm:∀ n,Rel k (Pb.on k) (mem n) (mem' (n+k))) (n:Nat):Rel k (Pb.on k) (iC S F fr mem n) (iC S' F' (fr+k) mem' (n+k)):=by
 unfold iC;refine bi (H.is n _) (fun _=>aU (by simp [aW,Nat.add_right_comm]) (by omega)) (fun _=>?_)
 refine au (oD H hF [44] hm n) (fun l m _=>?_)
 exact au (dB H [41] m) (fun u m2 _=>aU (by simp [sG]) rfl)
theorem Dc (H:Sh S S' k) {F F':Nat} (hF:F≤F') (nm:Int) {mem mem':Nat→Out Pb} (hm:∀ n,Rel k (Pb.on k) (mem n) (mem' (n+k))) (n:Nat):Rel k (Pb.on k) (plainO S F nm mem n) (plainO S' F' nm mem' (n+k)):=by
 unfold plainO;refine bi (by rw [H.kd]) (fun _=>aU (by simp [aW,Nat.add_right_comm]) (by omega)) (fun _=>bi (by rw [H.kd]) (fun _=>aU (by simp [aW,Nat.add_right_comm]) (by omega)) (fun _=>bi (H.is n _) (fun _=>?_) (fun _=>?_)))
 ·rw [Nat.add_right_comm]; exact Ol H hF n hm (n+1)
 ·exact au (vY H n) (fun m m2 _=>aU (by simp [aW,Nat.add_right_comm]) (by omega))
theorem kT (H:Sh S S' k) {F F':Nat} (hF:F≤F') {rec rec':Nt→Nat→Nat→Out Pb} {d:Nat} (hr:∀ nt n,Rel k (Pb.on k) (rec nt d n) (rec' nt d (n+k))) (n:Nat):Rel k (Pb.on k) (bT S F rec d n) (bT S' F' rec' d (n+k)):=by
 unfold bT;refine bi (H.is n _) (fun _=>aU (by simp [aW,Nat.add_right_comm]) (by omega)) (fun _=>bi (by rw [H.kd]) (fun _=>?_) (fun _=>Dc H hF 39 (hr .pat) n))
 exact au (qA H [7] n) (fun p m _=>aU (by simp [aW,Nat.add_right_comm]) (by omega))
theorem U4 (H:Sh S S' k) {F F':Nat} (hF:F≤F') {rec rec':Nt→Nat→Nat→Out Pb} {d:Nat} (hr:∀ nt n,Rel k (Pb.on k) (rec nt d n) (rec' nt d (n+k))) (n:Nat):Rel k (Pb.on k) (nY S F rec d n) (nY S' F' rec' d (n+k)):=by
 unfold nY;refine bi (by rw [H.kd,show n+k+1=n+1+k by omega,H.is]) (fun _=>?_) (fun _=>bi (by rw [H.kd]) (fun _=>?_) (fun _=>kT H hF hr n))
 ·rw [show n+k+2=n+2+k by omega]
  exact au (hr .pat (n+2)) (fun c m2 _=>aU (by simp [aW,Nat.add_right_comm]) (by omega))
 ·refine au (qA H [7] n) (fun p m _=>bi (H.begins _ m) (fun _=>?_) (fun _=>aU (by simp [aW,Nat.add_right_comm]) (by omega)))
  exact au (kT H hF hr m) (fun c m2 _=>aU (by simp [aW,Nat.add_right_comm]) (by omega))
theorem Nj (H:Sh S S' k) {F F':Nat} (hF:F≤F') {rec rec':Nt→Nat→Nat→Out Pb} {d:Nat} (hr:∀ nt n,Rel k (Pb.on k) (rec nt d n) (rec' nt d (n+k))) (a:Nat):∀ (f f':Nat) (acc:List Pb) (n:Nat),f≤f'→Rel k (List.map (Pb.on k)) (jE S rec d a f acc n) (jE S' rec' d a f' (acc.map (Pb.on k)) (n+k)):=by
 intro f
 induction f with
 | zero=>intro f' acc n _ h; exact absurd rfl h
 | succ f ih =>
  intro f' acc n hf;obtain ⟨q,rfl⟩:∃ q,f'=q+1:=⟨f' - 1,by omega⟩
  unfold jE;refine bi (H.is n _) (fun _=>?_) (fun _=>bi (H.declares a n) (fun _=>?_) (fun _=>aU rfl rfl))
  ·rw [Nat.add_right_comm]; exact ih q acc (n+1) (by omega)
  ·refine au (hr (.dec a) n) (fun b m _=>?_)
   have:=ih q (acc++[b]) m (by omega)
   simpa using this
theorem zY (H:Sh S S' k) {F F':Nat} (hF:F≤F') {rec rec':Nt→Nat→Nat→Out Pb} {d:Nat} (hr:∀ nt n,Rel k (Pb.on k) (rec nt d n) (rec' nt d (n+k))) (a n:Nat):Rel k (List.map (Pb.on k)) (gZ S F rec d a n) (gZ S' F' rec' d a (n+k)):=by
 exact Nj H hF hr a F F' [] n hF
theorem uG (H:Sh S S' k) {F F':Nat} (hF:F≤F') {rec rec':Nt→Nat→Nat→Out Pb} {d:Nat} (hr:∀ nt n,Rel k (Pb.on k) (rec nt d n) (rec' nt d (n+k))) (a n:Nat):Rel k (Pb.on k) (fB S F rec d a n) (fB S' F' rec' d a (n+k)):=by
 unfold fB;exact au (zY H hF hr a n) (fun l m _=>aU (by simp [aW,Nat.add_right_comm]) (by omega))
theorem Hz (H:Sh S S' k) {F F':Nat} (hF:F≤F') {rec rec':Nt→Nat→Nat→Out Pb} {d:Nat} (hr:∀ nt n,Rel k (Pb.on k) (rec nt d n) (rec' nt d (n+k))) (n:Nat):Rel k (Pb.on k) (iI S F rec d n) (iI S' F' rec' d (n+k)):=by
 unfold iI;refine bi (by rw [H.kd]) (fun _=>?_) (fun _=>bi (H.is n _) (fun _=>?_) (fun _=>Dc H hF 28 (hr .exp) n))
 ·refine au (qA H [7,6] n) (fun p m hp=>?_)
  have:=Dh hp
  rw [show m+k - 1=m - 1+k by omega,H.kd];exact bi rfl (fun _=>aU (by simp [aW,Nat.add_right_comm]) (by omega)) (fun _=>aU (by simp [aW,Nat.add_right_comm]) (by omega))
 ·rw [Nat.add_right_comm]
  refine au (uG H hF hr 0 (n+1)) (fun ds m _=>?_)
  refine au (dB H _ m) (fun u m2 _=>?_)
  refine au (hr .exp m2) (fun e m3 _=>?_)
  exact au (dB H _ m3) (fun u m4 _=>aU (by simp [aW,Nat.add_right_comm]) (by omega))
theorem Np (H:Sh S S' k) {F F':Nat} (hF:F≤F') {rec rec':Nt→Nat→Nat→Out Pb} {d:Nat} (hr:∀ nt n,Rel k (Pb.on k) (rec nt d n) (rec' nt d (n+k))):∀ (f f':Nat) (acc:List Pb) (n:Nat),f≤f'→Rel k (List.map (Pb.on k)) (jd S F rec d f acc n) (jd S' F' rec' d f' (acc.map (Pb.on k)) (n+k)):=by
 intro f
 induction f with
 | zero=>intro f' acc n _ h; exact absurd rfl h
 | succ f ih =>
  intro f' acc n hf;obtain ⟨q,rfl⟩:∃ q,f'=q+1:=⟨f' - 1,by omega⟩
  unfold jd;refine bi (H.begins _ n) (fun _=>?_) (fun _=>aU rfl rfl)
  ·refine au (Hz H hF hr n) (fun b m _=>?_)
   have:=ih q (acc++[b]) m (by omega)
   simpa using this
theorem Ia (H:Sh S S' k) {F F':Nat} (hF:F≤F') {rec rec':Nt→Nat→Nat→Out Pb} {d:Nat} (hr:∀ nt n,Rel k (Pb.on k) (rec nt d n) (rec' nt d (n+k))) (n:Nat):Rel k (Pb.on k) (jH S F rec d n) (jH S' F' rec' d (n+k)):=by
 unfold jH;refine au (Hz H hF hr n) (fun b m _=>?_)
 exact au (Np H hF hr F F' [b] m hF) (fun l m2 _=>aU (by simp [sG]) rfl)
abbrev onI (k:Nat):List Nat × List Pb→List Nat × List Pb:=fun l=>(Cc k l.1,l.2.map (Pb.on k))
theorem Jp (H:Sh S S' k) {F F':Nat} (hF:F≤F') {rec rec':Nt→Nat→Nat→Out Pb} {d:Nat} (hr:∀ nt n,Rel k (Pb.on k) (rec nt d n) (rec' nt d (n+k))):∀ (f f':Nat) (sg:List Nat) (acc:List Pb) (n:Nat),f≤f'→Rel k (onI k) (iM S F rec d f sg acc n) (iM S' F' rec' d f' (Cc k sg) (acc.map (Pb.on k)) (n+k)):=by
 intro f
 induction f with
 | zero=>intro f' sg acc n _ h; exact absurd rfl h
 | succ f ih =>
  intro f' sg acc n hf;obtain ⟨q,rfl⟩:∃ q,f'=q+1:=⟨f' - 1,by omega⟩
  unfold iM;refine bi (by rw [H.kd]) (fun _=>?_) (fun _=>aU rfl rfl)
  refine au (fZ H [9] n) (fun x m _=>?_)
  refine au (Ia H hF hr m) (fun b m2 _=>?_)
  have:=ih q (sg++[x]) (acc++[b]) m2 (by omega)
  simpa [Cc] using this
theorem Oo (H:Sh S S' k) {F F':Nat} (hF:F≤F') {rec rec':Nt→Nat→Nat→Out Pb} {d:Nat} (hr:∀ nt n,Rel k (Pb.on k) (rec nt d n) (rec' nt d (n+k))) (n:Nat):Rel k (Pb.on k) (gG S F rec d n) (gG S' F' rec' d (n+k)):=by
 unfold gG;refine au (Ia H hF hr n) (fun b m _=>?_)
 exact au (Jp H hF hr F F' [] [b] m hF) (fun l m2 _=>aU (by simp [sG,onI]) rfl)
theorem yV (H:Sh S S' k) {F F':Nat} (hF:F≤F') {rec rec':Nt→Nat→Nat→Out Pb} {d:Nat} (hr:∀ nt n,Rel k (Pb.on k) (rec nt d n) (rec' nt d (n+k))) (a:Int) (fr n:Nat):Rel k (Pb.on k) (fD S rec d a fr n) (fD S' rec' d a (fr+k) (n+k)):=by
 unfold fD;refine au (hr .pat n) (fun p m _=>?_)
 refine au (dB H _ m) (fun u m2 _=>?_)
 exact au (hr .exp m2) (fun e m3 _=>aU (by simp [aW,Nat.add_right_comm]) (by omega))
theorem U3 (H:Sh S S' k) {F F':Nat} (hF:F≤F') {rec rec':Nt→Nat→Nat→Out Pb} {d:Nat} (hr:∀ nt n,Rel k (Pb.on k) (rec nt d n) (rec' nt d (n+k))) (n:Nat):Rel k (Pb.on k) (ou S F rec d n) (ou S' F' rec' d (n+k)):=by
 unfold ou;refine bi (H.is n _) (fun _=>?_) (fun _=>bi (H.is n _) (fun _=>?_) (fun _=>bi (H.is n _) (fun _=>?_) (fun _=>Oo H hF hr n)))
 ·rw [Nat.add_right_comm]
  refine au (hr .exp (n+1)) (fun a m _=>?_)
  refine au (dB H _ m) (fun u m2 _=>?_)
  refine au (hr .exp m2) (fun b m3 _=>?_)
  refine au (dB H _ m3) (fun u m4 _=>?_)
  exact au (hr .exp m4) (fun c m5 _=>aU (by simp [aW,Nat.add_right_comm]) (by omega))
 ·rw [Nat.add_right_comm]
  refine au (hr .exp (n+1)) (fun a m _=>?_)
  refine au (dB H _ m) (fun u m2 _=>?_)
  exact au (oD H hF _ (fun n=>yV H hF hr 33 n n) m2) (fun l m3 _=>aU (by simp [aW,Nat.add_right_comm]) (by omega))
 ·rw [Nat.add_right_comm]
  exact yV H hF hr 34 n (n+1)
theorem NS (H:Sh S S' k):∀ (f f' n:Nat),f≤f'→Rel k id (jy S f n) (jy S' f' (n+k)):=by
 intro f
 induction f with
 | zero=>intro f' n _ h; exact absurd rfl h
 | succ f ih =>
  intro f' n hf;obtain ⟨q,rfl⟩:∃ q,f'=q+1:=⟨f' - 1,by omega⟩
  unfold jy;refine bi (H.is n _) (fun _=>?_) (fun _=>aU rfl rfl)
  rw [Nat.add_right_comm];exact au (fZ H [8] (n+1)) (fun x m _=>ih q m (by omega))
theorem pO (H:Sh S S' k) {F F':Nat} (hF:F≤F') (n:Nat):Rel k (addN k) (bU S F n) (bU S' F' (n+k)):=by
 unfold bU;refine bi (by rw [H.kd]) (fun _=>?_) (fun _=>bi (H.is n _) (fun _=>?_) (fun _=>fZ H [6] n))
 ·rw [Nat.add_right_comm]; exact fZ H [6] (n+1)
 ·rw [Nat.add_right_comm]
  refine au (fZ H [8] (n+1)) (fun x m _=>?_)
  refine au (NS H F F' m hF) (fun u m2 _=>?_)
  exact au (dB H _ m2) (fun u m3 _=>fZ H [6] m3)
theorem UI (H:Sh S S' k) {F F':Nat} (hF:F≤F') {rec rec':Nt→Nat→Nat→Out Pb} {d:Nat} (hr:∀ nt n,Rel k (Pb.on k) (rec nt d n) (rec' nt d (n+k))) (n:Nat):Rel k (Pb.on k) (lZ S rec d n) (lZ S' rec' d (n+k)):=by
 unfold lZ;refine au (fZ H [7] n) (fun x m _=>bi (H.is m _) (fun _=>?_) (fun _=>aU (by simp [aW,Nat.add_right_comm]) (by omega)))
 rw [Nat.add_right_comm];exact au (hr .ty (m+1)) (fun c m2 _=>aU (by simp [aW,Nat.add_right_comm]) (by omega))
theorem O5 (H:Sh S S' k) {F F':Nat} (hF:F≤F') {rec rec':Nt→Nat→Nat→Out Pb} {d:Nat} (hr:∀ nt n,Rel k (Pb.on k) (rec nt d n) (rec' nt d (n+k))) (n:Nat):Rel k (Pb.on k) (gq S F rec d n) (gq S' F' rec' d (n+k)):=by
 unfold gq;refine au (pO H hF n) (fun x m _=>?_)
 refine au (dB H _ m) (fun u m2 _=>?_)
 exact au (oD H hF _ (fun n=>UI H hF hr n) m2) (fun l m3 _=>aU (by simp [aW,Nat.add_right_comm]) (by omega))
theorem sZ (H:Sh S S' k) {F F':Nat} (hF:F≤F') {rec rec':Nt→Nat→Nat→Out Pb} {d:Nat} (hr:∀ nt n,Rel k (Pb.on k) (rec nt d n) (rec' nt d (n+k))) (fr n:Nat):Rel k (Pb.on k) (bV S F rec d fr n) (bV S' F' rec' d (fr+k) (n+k)):=by
 unfold bV;exact au (oD H hF _ (fun n=>O5 H hF hr n) n) (fun l m3 _=>aU (by simp [aW,Nat.add_right_comm]) (by omega))
theorem RS (H:Sh S S' k) {F F':Nat} (hF:F≤F') {rec rec':Nt→Nat→Nat→Out Pb} {d:Nat} (hr:∀ nt n,Rel k (Pb.on k) (rec nt d n) (rec' nt d (n+k))) (n:Nat):Rel k (Pb.on k) (jG S F rec d n) (jG S' F' rec' d (n+k)):=by
 unfold jG;refine bi (H.is n _) (fun _=>?_) (fun _=>bi (H.is n _) (fun _=>?_) (fun _=>bi (H.is n _) (fun _=>?_) (fun _=>bi (H.is n _) (fun _=>?_) (fun _=>?_))))
 ·rw [Nat.add_right_comm]
  refine au (vY H (n+1)) (fun x m _=>?_)
  refine au (dB H _ m) (fun u m2 _=>?_)
  exact au (hr .ty m2) (fun c m3 _=>aU (by simp [aW,Nat.add_right_comm]) (by omega))
 ·rw [Nat.add_right_comm]
  refine au (pO H hF (n+1)) (fun x m _=>bi (H.is m _) (fun _=>?_) (fun _=>aU (by simp [aW,Nat.add_right_comm]) (by omega)))
  rw [Nat.add_right_comm];exact au (hr .ty (m+1)) (fun c m2 _=>aU (by simp [aW,Nat.add_right_comm]) (by omega))
 ·rw [Nat.add_right_comm]; exact sZ H hF hr n (n+1)
 ·rw [Nat.add_right_comm]
  refine au (fZ H [7] (n+1)) (fun x m _=>?_)
  refine au (dB H _ m) (fun u m2 _=>?_)
  exact au (hr .sig m2) (fun c m3 _=>aU (by simp [aW,Nat.add_right_comm]) (by omega))
 ·refine au (dB H _ n) (fun u m2 _=>?_)
  exact au (hr .sig m2) (fun c m3 _=>aU (by simp [aW,Nat.add_right_comm]) (by omega))
theorem JW (H:Sh S S' k) {F F':Nat} (hF:F≤F') {rec rec':Nt→Nat→Nat→Out Pb} {d:Nat} (hr:∀ nt n,Rel k (Pb.on k) (rec nt d n) (rec' nt d (n+k))):∀ (f f':Nat) (acc:List Pb) (n:Nat),f≤f'→Rel k (List.map (Pb.on k)) (iF S F rec d f acc n) (iF S' F' rec' d f' (acc.map (Pb.on k)) (n+k)):=by
 intro f
 induction f with
 | zero=>intro f' acc n _ h; exact absurd rfl h
 | succ f ih =>
  intro f' acc n hf;obtain ⟨q,rfl⟩:∃ q,f'=q+1:=⟨f' - 1,by omega⟩
  unfold iF;refine bi (H.is n _) (fun _=>aU rfl (by omega)) (fun _=>bi (H.is n _) (fun _=>?_) (fun _=>?_))
  ·rw [Nat.add_right_comm]; exact ih q acc (n+1) (by omega)
  ·refine au (RS H hF hr n) (fun b m _=>?_)
   have:=ih q (acc++[b]) m (by omega)
   simpa using this
theorem FZ (H:Sh S S' k) {F F':Nat} (hF:F≤F') {rec rec':Nt→Nat→Nat→Out Pb} {d:Nat} (hr:∀ nt n,Rel k (Pb.on k) (rec nt d n) (rec' nt d (n+k))) (n:Nat):Rel k (Pb.on k) (dU S F rec d n) (dU S' F' rec' d (n+k)):=by
 unfold dU;refine bi (H.is n _) (fun _=>?_) (fun _=>?_)
 ·rw [Nat.add_right_comm]
  exact au (JW H hF hr F F' [] (n+1) hF) (fun l m _=>aU (by simp [aW,Nat.add_right_comm]) (by omega))
 ·exact au (fZ H [7] n) (fun x m _=>aU (by simp [aW,Nat.add_right_comm]) (by omega))
theorem KC (H:Sh S S' k) {F F':Nat} (hF:F≤F') {rec rec':Nt→Nat→Nat→Out Pb} {d:Nat} (hr:∀ nt n,Rel k (Pb.on k) (rec nt d n) (rec' nt d (n+k))) (fr:Nat):∀ (f f':Nat) (b:Pb) (n:Nat),f≤f'→Rel k (Pb.on k) (iK S rec d fr f b n) (iK S' rec' d (fr+k) f' (b.on k) (n+k)):=by
 intro f
 induction f with
 | zero=>intro f' b n _ h; exact absurd rfl h
 | succ f ih =>
  intro f' b n hf;obtain ⟨q,rfl⟩:∃ q,f'=q+1:=⟨f' - 1,by omega⟩
  unfold iK;refine bi (H.is n _) (fun _=>?_) (fun _=>aU rfl rfl)
  rw [Nat.add_right_comm];refine au (dB H _ (n+1)) (fun u m _=>?_)
  refine au (kF H m) (fun p m2 _=>?_)
  refine au (dB H _ m2) (fun u m3 _=>?_)
  refine au (hr .ty m3) (fun c m4 _=>?_)
  have:=ih q (node 21 fr m4 p [b,c]) m4 (by omega)
  rwa [aW] at this
theorem UL (H:Sh S S' k) {F F':Nat} (hF:F≤F') {rec rec':Nt→Nat→Nat→Out Pb} {d:Nat} (hr:∀ nt n,Rel k (Pb.on k) (rec nt d n) (rec' nt d (n+k))) (n:Nat):Rel k (Pb.on k) (oh S F rec d n) (oh S' F' rec' d (n+k)):=by
 unfold oh;exact au (FZ H hF hr n) (fun b m _=>KC H hF hr n F F' b m hF)
theorem F5 (H:Sh S S' k) {F F':Nat} (hF:F≤F') {rec rec':Nt→Nat→Nat→Out Pb} {d:Nat} (hr:∀ nt n,Rel k (Pb.on k) (rec nt d n) (rec' nt d (n+k))) (n:Nat):Rel k (Pb.on k) (dV S F rec d n) (dV S' F' rec' d (n+k)):=by
 unfold dV;refine bi (H.is n _) (fun _=>?_) (fun _=>bi (by rw [H.kd,show n+k+1=n+1+k by omega,H.is]) (fun _=>?_) (fun _=>?_))
 ·rw [Nat.add_right_comm]
  refine au (zY H hF hr 1 (n+1)) (fun l m _=>?_)
  exact au (dB H _ m) (fun u m2 _=>aU (by simp [aW,Nat.add_right_comm]) (by omega))
 ·rw [show n+k+2=n+2+k by omega]
  refine au (hr .str (n+2)) (fun c m2 _=>?_)
  exact au (dB H _ m2) (fun u m3 _=>aU (by simp [aW,Nat.add_right_comm]) (by omega))
 ·exact au (qA H [7] n) (fun p m _=>aU (by simp [aW,Nat.add_right_comm]) (by omega))
theorem MB (H:Sh S S' k) {F F':Nat} (hF:F≤F') {rec rec':Nt→Nat→Nat→Out Pb} {d:Nat} (hr:∀ nt n,Rel k (Pb.on k) (rec nt d n) (rec' nt d (n+k))) (fr:Nat):∀ (f f':Nat) (b:Pb) (n:Nat),f≤f'→Rel k (Pb.on k) (kH S rec d fr f b n) (kH S' rec' d (fr+k) f' (b.on k) (n+k)):=by
 intro f
 induction f with
 | zero=>intro f' b n _ h; exact absurd rfl h
 | succ f ih =>
  intro f' b n hf;obtain ⟨q,rfl⟩:∃ q,f'=q+1:=⟨f' - 1,by omega⟩
  unfold kH;rw [H.colon];refine bi rfl (fun _=>aU rfl rfl) (fun _=>?_)
  rw [Nat.add_right_comm];refine au (hr .sig (n+1)) (fun c m _=>?_)
  have:=ih q (marked ((S.colon n).1:Int) (node 18 fr m [] [b,c])) m (by omega)
  rwa [uy,aW] at this
theorem UZ (H:Sh S S' k) {F F':Nat} (hF:F≤F') {rec rec':Nt→Nat→Nat→Out Pb} {d:Nat} (hr:∀ nt n,Rel k (Pb.on k) (rec nt d n) (rec' nt d (n+k))) (n:Nat):Rel k (Pb.on k) (nO S F rec d n) (nO S' F' rec' d (n+k)):=by
 unfold nO;exact au (F5 H hF hr n) (fun b m _=>MB H hF hr n F F' b m hF)
abbrev onB (k:Nat):Nat × List Pb→Nat × List Pb:=fun l=>(l.1,l.2.map (Pb.on k))
theorem Ht (H:Sh S S' k) {F F':Nat} (hF:F≤F') {rec rec':Nt→Nat→Nat→Out Pb} {d:Nat} (hr:∀ nt n,Rel k (Pb.on k) (rec nt d n) (rec' nt d (n+k))) (n:Nat):Rel k (onB k) (jw S rec d n) (jw S' rec' d (n+k)):=by
 unfold jw;rw [H.colon];refine au (g:=List.map (Pb.on k)) (bi rfl (fun _=>aU rfl rfl) (fun _=>?_)) (fun l m _=>?_)
 ·rw [Nat.add_right_comm]
  exact au (hr .sig (n+1)) (fun c m _=>aU rfl rfl)
 ·refine au (dB H _ m) (fun u m2 _=>?_)
  exact au (hr .str m2) (fun c m3 _=>aU (by simp [onB]) rfl)
theorem AL (H:Sh S S' k) {F F':Nat} (hF:F≤F') {rec rec':Nt→Nat→Nat→Out Pb} {d:Nat} (hr:∀ nt n,Rel k (Pb.on k) (rec nt d n) (rec' nt d (n+k))) (fr n:Nat):Rel k (Pb.on k) (cO S rec d fr n) (cO S' rec' d (fr+k) (n+k)):=by
 unfold cO;refine au (fZ H [7] n) (fun x m _=>?_)
 exact au (Ht H hF hr m) (fun l m2 _=>aU (by simp [aW,uy,onB]) rfl)
theorem Fe (H:Sh S S' k) {F F':Nat} (hF:F≤F') {rec rec':Nt→Nat→Nat→Out Pb} {d:Nat} (hr:∀ nt n,Rel k (Pb.on k) (rec nt d n) (rec' nt d (n+k))) (fr n:Nat):Rel k (Pb.on k) (dS S rec d fr n) (dS S' rec' d (fr+k) (n+k)):=by
 unfold dS;refine au (fZ H [7] n) (fun x m _=>?_)
 refine au (dB H _ m) (fun u m2 _=>?_)
 refine au (fZ H [7] m2) (fun y m3 _=>?_)
 refine au (dB H _ m3) (fun u m4 _=>?_)
 refine au (hr .sig m4) (fun c m5 _=>?_)
 refine au (dB H _ m5) (fun u m6 _=>?_)
 exact au (Ht H hF hr m6) (fun l m7 _=>aU (by simp [aW,uy,onB]) rfl)
theorem Q9 (H:Sh S S' k) {F F':Nat} (hF:F≤F') {rec rec':Nt→Nat→Nat→Out Pb} {d:Nat} (hr:∀ nt n,Rel k (Pb.on k) (rec nt d n) (rec' nt d (n+k))):∀ (f f':Nat) (acc:List Pb) (n:Nat),f≤f'→Rel k (List.map (Pb.on k)) (pI S F rec d f acc n) (pI S' F' rec' d f' (acc.map (Pb.on k)) (n+k)):=by
 intro f
 induction f with
 | zero=>intro f' acc n _ h; exact absurd rfl h
 | succ f ih =>
  intro f' acc n hf;obtain ⟨q,rfl⟩:∃ q,f'=q+1:=⟨f' - 1,by omega⟩
  unfold pI;refine bi (H.begins _ n) (fun _=>?_) (fun _=>aU rfl rfl)
  ·refine au (kT H hF hr n) (fun b m _=>?_)
   have:=ih q (acc++[b]) m (by omega)
   simpa using this
theorem CV (H:Sh S S' k) {F F':Nat} (hF:F≤F') {rec rec':Nt→Nat→Nat→Out Pb} {d:Nat} (hr:∀ nt n,Rel k (Pb.on k) (rec nt d n) (rec' nt d (n+k))) (n:Nat):Rel k (Pb.on k) (cZ S F rec d n) (cZ S' F' rec' d (n+k)):=by
 unfold cZ;refine au (vY H n) (fun x m _=>?_)
 refine au (kT H hF hr m) (fun b m2 _=>?_)
 refine au (Q9 H hF hr F F' [b] m2 hF) (fun l m3 _=>?_)
 refine au (dB H _ m3) (fun u m4 _=>?_)
 exact au (hr .exp m4) (fun c m5 _=>aU (by simp [aW,Nat.add_right_comm]) (by omega))
theorem NW (H:Sh S S' k) {F F':Nat} (hF:F≤F') {rec rec':Nt→Nat→Nat→Out Pb} {d:Nat} (hr:∀ nt n,Rel k (Pb.on k) (rec nt d n) (rec' nt d (n+k))) (fr a n:Nat):Rel k (Pb.on k) (iE S F rec d fr a n) (iE S' F' rec' d (fr+k) a (n+k)):=by
 unfold iE;refine au (uG H hF hr a n) (fun x m _=>?_)
 refine au (dB H _ m) (fun u m2 _=>?_)
 refine au (uG H hF hr a m2) (fun x m3 _=>?_)
 exact au (dB H _ m3) (fun u m4 _=>aU (by simp [aW,Nat.add_right_comm]) (by omega))
theorem U2 (H:Sh S S' k) {F F':Nat} (hF:F≤F') {rec rec':Nt→Nat→Nat→Out Pb} {d:Nat} (hr:∀ nt n,Rel k (Pb.on k) (rec nt d n) (rec' nt d (n+k))) (a n:Nat):Rel k (Pb.on k) (nS S F rec d a n) (nS S' F' rec' d a (n+k)):=by
 unfold nS;rw [Nat.add_right_comm];refine bi (H.is n _) (fun _=>?_) (fun _=>bi (H.is n _) (fun _=>?_) (fun _=>bi (H.is n _) (fun _=>?_) (fun _=>bi (H.is n _) (fun _=>?_) (fun _=>bi (H.is n _) (fun _=>?_) (fun _=>bi (H.is n _) (fun _=>?_) (fun _=>bi (H.is n _) (fun _=>?_) (fun _=>bi (H.is n _) (fun _=>?_) (fun _=>?_))))))))
 ·refine au (hr .pat (n+1)) (fun p m _=>?_)
  refine au (dB H _ m) (fun u m2 _=>?_)
  exact au (hr .exp m2) (fun c m3 _=>aU (by simp [aW,Nat.add_right_comm]) (by omega))
 ·exact au (oD H hF _ (fun n=>CV H hF hr n) (n+1)) (fun l m _=>aU (by simp [aW,Nat.add_right_comm]) (by omega))
 ·refine au (pO H hF (n+1)) (fun x m _=>?_)
  refine au (dB H _ m) (fun u m2 _=>?_)
  exact au (hr .ty m2) (fun c m3 _=>aU (by simp [aW,Nat.add_right_comm]) (by omega))
 ·exact sZ H hF hr n (n+1)
 ·exact AL H hF hr n (n+1)
 ·refine au (fZ H [7] (n+1)) (fun x m _=>?_)
  refine au (dB H _ m) (fun u m2 _=>?_)
  exact au (hr .sig m2) (fun c m3 _=>aU (by simp [aW,Nat.add_right_comm]) (by omega))
 ·exact Fe H hF hr n (n+1)
 ·exact au (qA H [7] (n+1)) (fun p m _=>aU (by simp [aW,Nat.add_right_comm]) (by omega))
 ·exact NW H hF hr n a (n+1)
theorem Oq (H:Sh S S' k):∀ (f f':Nat),f≤f'→∀ nt d n,Rel k (Pb.on k) (parts S f nt d n) (parts S' f' nt d (n+k)):=by
 intro f
 induction f with
 | zero=>intro f' _ nt d n h; exact absurd rfl h
 | succ f ih =>
  intro f' hf nt d n;obtain ⟨q,rfl⟩:∃ q,f'=q+1:=⟨f' - 1,by omega⟩
  unfold parts;refine bi rfl (fun _=>fun _=>rfl) (fun _=>?_)
  have hq:f≤q:=by omega
  have hr:=fun nt n=>ih q hq nt (d+1) n
  cases nt with
  | exp=>exact U3 H hq hr n
  | pat=>exact U4 H hq hr n
  | ty=>exact Yb H hq hr n
  | sig=>exact UL H hq hr n
  | str=>exact UZ H hq hr n
  | dec a=>exact U2 H hq hr a n
end
mutual
theorem BP:(b:Pb)→b.on 0=b
 | .mk a m f t ns ks=>by
  have h:=zM ks;simp only [Pb.on,h]
  simp
theorem zM:(l:List Pb)→onL 0 l=l
 | []=>rfl
 | b :: r=>by
  have h1:=BP b;have h2:=zM r;simp only [onL,h1,h2]
end
theorem MI {o:Out Pb}:o.on 0 (Pb.on 0)=o:=by
 cases o <;> simp [Out.on,BP]
theorem NR {S S':Src} {k:Nat} (H:Sh S S' 0):Rel 0 (Pb.on 0) (jF S) (jF S'):=by
 have hF:fuel S≤fuel S':=by have:=H.len; unfold fuel; omega
 unfold jF jo;exact au (zY H hF (fun nt n=>Oq H (fuel S) (fuel S') hF nt 0 n) 2 0) (fun l m _=>aU (by simp [aW]) (by omega))
theorem DK {S S':Src} (H:Sh S S' 0) (o:Out Pb):fJ S' o=fJ S o:=by
 unfold fJ
 cases o with
 | ok b n =>
  simp only [Out.bind]
  have:=H.kd n
  rw [Nat.add_zero] at this;rw [this]
 | form n=>rfl
 | deep n=>rfl
 | dry=>rfl
theorem FQ (c:UInt8) (hc:dL c=true) (a:Nat) (R:List UInt8):kS a (c :: R)=kS (a+1) R:=by
 have e1:bK (c :: R)=(1,aQ (bW dL) () R+1):=by
  have:bK (c :: R)=(1,aQ (bW dL) () (c :: R)):=by unfold bK; simp [hc]
  rw [this]
  simp [aQ,bW,hc]
 rw [xB a (c :: R) (by simp),e1];simp only [List.drop_succ_cons]
 have:=AQ (a+1) R
 rw [show a+1+aQ (bW dL) () R=a+(aQ (bW dL) () R+1) by omega] at this;rw [this]
 rfl
theorem Ve (R:List UInt8):bK (40 :: 42 :: 120 :: 42 :: 41 :: R)=(2,5):=by
 have hp:aQ nF (0,0) (40 :: 42 :: 120 :: 42 :: 41 :: R)=4:=by
  simp [aQ,nF,eqB]
 have e:bK (40 :: 42 :: 120 :: 42 :: 41 :: R)=jf (40 :: 42 :: 120 :: 42 :: 41 :: R):=rfl;rw [e];unfold jf;simp only [hp,List.length_cons]
 have:(4 == R.length+1+1+1+1+1)=false:=by rw [beq_eq_false_iff_ne]; omega
 rw [this]; rfl
theorem JS (a:Nat) (R:List UInt8):kS a (40 :: 42 :: 120 :: 42 :: 41 :: R)=kS (a+5) R:=by
 rw [xB a _ (by simp),Ve];simp only [List.drop_succ_cons,List.drop_zero]
 rfl
inductive Eo:List UInt8→Prop
 | nil:Eo []
 | blank (c:UInt8) (hc:dL c=true) {l:List UInt8} (h:Eo l):Eo (c :: l)
 | note {l:List UInt8} (h:Eo l):Eo (40 :: 42 :: 120 :: 42 :: 41 :: l)
theorem JX {M:List UInt8} (h:Eo M):∀ (a:Nat) (R:List UInt8),kS a (M++R)=kS (a+M.length) R:=by
 induction h with
 | nil=>intro a R; rfl
 | blank c hc h ih =>
  intro a R;rw [List.cons_append,FQ c hc,ih];simp only [List.length_cons]
  congr 1; omega
 | note h ih =>
  intro a R;simp only [List.cons_append];rw [JS,ih];simp only [List.length_cons]
  congr 1; omega
def onT (K:Nat) (t:Tok):Tok:=⟨t.k,t.a+K,t.e+K⟩
theorem OA (K:Nat):∀ (n a:Nat) (l:List UInt8),dw n (a+K) l=(dw n a l).map (onT K):=by
 intro n
 induction n with
 | zero=>intro a l; rfl
 | succ n ih =>
  intro a l;unfold dw
  cases l.isEmpty
  ·simp only [cond_false,List.map_cons]
   rw [show a+K+(bK l).2=(a+(bK l).2)+K by omega,ih]
   rfl
  ·rfl
theorem QX (K:Nat) (l:List Tok):fH kR (l.map (onT K))=(fH kR l).map (onT K):=by
 induction l with
 | nil=>rfl
 | cons x r ih =>
  have hs:kR (onT K x).k=kR x.k:=rfl;simp only [List.map_cons,fH,hs,ih]
  cases kR x.k <;> rfl
theorem Gp (s t:ByteArray) (M:List UInt8) (hM:Eo M) (ht:t.data.toList=M++s.data.toList):aN t=(aN s).map (onT M.length)∧t.size=s.size+M.length:=by
 have hsz:t.size=s.size+M.length:=by rw [← bZ,ht,List.length_append,bZ]; omega
 refine ⟨?_,hsz⟩
 have w:∀ u:ByteArray,kN u=kS 0 u.data.toList:=fun u=>by unfold kN kS; rw [bZ]
 rw [iV,iV,w,w,ht,JX hM,Nat.zero_add,List.map_append,List.map_singleton];have e:kS M.length s.data.toList=(kS 0 s.data.toList).map (onT M.length):=by
  unfold kS
  have:=OA M.length s.data.toList.length 0 s.data.toList
  rw [Nat.zero_add] at this;rw [this,QX]
 rw [e,hsz]
 simp [onT]
theorem qp {S S':Src} (H:Sh S S' 0) (g:S.Good) (ht:S.ts=aN S.s):fJ S' (jF S')=fJ S (jF S):=by
 have h1:=NR (k:=0) H (CP S ht g);rw [h1,MI];exact DK H _
theorem AU {S S':Src} (h1:S'.s=S.s) (h2:S'.ts=S.ts):Sh S S' 0:=by
 obtain ⟨s,ts,g,gw,cw⟩:=S;obtain ⟨s',ts',g',gw',cw'⟩:=S'
 simp only at h1 h2
 subst h1 h2;exact ⟨fun _=>rfl,fun _=>rfl,Nat.le_refl _⟩
theorem UV {s:ByteArray} {x y:Pb} {n m:Nat} (h:nM s x n) (k:nM s y m):x=y∧n=m:=by
 obtain ⟨_,S,a1,a2,a3,a4⟩:=h;obtain ⟨_,S',b1,b2,b3,b4⟩:=k
 have:=qp (AU (S:=S) (S':=S') (by rw [a1,b1]) (by rw [a2,b2])) a3 (by rw [a2,a1])
 rw [a4,b4] at this
 injection this with e1 e2
 exact ⟨e1.symm,e2.symm⟩
theorem JY {s:ByteArray} {x:Pb} {n:Nat} {a c:Int} (h:nM s x n) (k:jT s a c):False:=by
 obtain ⟨h0,S,a1,a2,a3,a4⟩:=h
 rcases k with ⟨h1,_⟩ | ⟨_,S',b1,b2,b3,⟨m,h1,_⟩ | ⟨m,h1,_⟩⟩
 ·exact h1 h0
 ·have:=qp (AU (S:=S) (S':=S') (by rw [a1,b1]) (by rw [a2,b2])) a3 (by rw [a2,a1])
  rw [a4,h1] at this; cases this
 ·have:=qp (AU (S:=S) (S':=S') (by rw [a1,b1]) (by rw [a2,b2])) a3 (by rw [a2,a1])
  rw [a4,h1] at this; cases this
namespace Inn
def Fin (S:Src) (k n:Nat) {α:Type}:Out α→Prop
 | .ok _ m=>n+k≤m∧m < S.ts.length
 | .form m=>m < S.ts.length
 | .deep m=>m < S.ts.length
 | .dry=>False
theorem Fin.at {S:Src} {a b n m:Nat} {α:Type} {o:Out α} (h:Fin S a m o) (hb:n+b≤m+a):Fin S b n o:=by
 cases o with
 | ok x k=>exact ⟨by have:=h.1; omega,h.2⟩
 | form k=>exact h
 | deep k=>exact h
 | dry=>exact h
theorem Fin.le {S:Src} {a b n:Nat} {α:Type} {o:Out α} (h:Fin S a n o) (hb:b≤a):Fin S b n o:=h.at (by omega)
theorem ah {S:Src} {a b c n:Nat} {α β:Type} {o:Out α} {f:α→Nat→Out β} (h:Fin S a n o) (hc:c≤a+b) (hf:∀ x m,n+a≤m→m < S.ts.length→Fin S b m (f x m)):Fin S c n (o.bind f):=by
 cases o with
 | ok x m=>exact (hf x m h.1 h.2).at (by have:n+a≤m:=h.1; omega)
 | form m=>exact h
 | deep m=>exact h
 | dry=>exact h
theorem aB {S:Src} {k n m:Nat} {α:Type} {x:α} (h:n+k≤m) (hm:m < S.ts.length):Fin S k n (.ok x m):=⟨h,hm⟩
theorem aG {S:Src} {k n:Nat} {α:Type} {c:Bool} {a b:Out α} (ha:c=true→Fin S k n a) (hb:c=false→Fin S k n b):Fin S k n (bif c then a else b):=by
 cases c
 ·exact hb rfl
 ·exact ha rfl
section
variable {S:Src} (g:S.Good)
include g
theorem aO {t:List UInt8} (ht:t≠[]) {n:Nat} (hn:n < S.ts.length):Fin S 1 n (S.need t n):=by
 unfold Src.need;exact aG (fun h=>aB (Nat.le_refl _) (g.more hn ht h)) (fun _=>by show _ < S.ts.length; omega)
theorem bz {ks:List Int} (hz:ks.contains 0=false) {n:Nat} (hn:n < S.ts.length):Fin S 1 n (S.take ks n):=by
 unfold Src.take;refine aG (fun h=>aB (Nat.le_refl _) (g.moreK hn (fun e=>?_))) (fun _=>by show _ < S.ts.length; omega)
 rw [e,hz] at h; cases h
theorem uw {ks:List Int} (hz:ks.contains 0=false):∀ (f:Nat) (acc:List Nat) (n:Nat),n < S.ts.length→S.ts.length < f+n+1→Fin S 0 n (S.pathL ks f acc n):=by
 intro f
 induction f with
 | zero=>intro acc n hn hf; omega
 | succ f ih =>
  intro acc n hn hf;unfold Src.pathL;refine aG (fun h=>?_) (fun _=>aB (Nat.le_refl _) hn)
  simp only [Bool.and_eq_true] at h;have h1:=g.more hn (by simp) h.2;refine (ah (bz g hz h1) (c:=1) (b:=0) (by omega) (fun x m hm hl=>ih _ m hl (by omega))).at (by omega)
theorem gI {ks:List Int} (hz:ks.contains 0=false) {n:Nat} (hn:n < S.ts.length):Fin S 1 n (S.path ks n):=by
 unfold Src.path;exact ah (bz g hz hn) (by omega) (fun x m hm hl=>uw g hz _ _ m hl (by omega))
theorem fC {n:Nat} (hn:n < S.ts.length):Fin S 1 n (S.typePath n):=by
 unfold Src.typePath;exact ah (gI g (by decide) hn) (b:=0) (by omega) (fun x m hm hl=>aG (fun _=>aB (by omega) hl) (fun _=>by show _ < S.ts.length; omega))
theorem jL {n:Nat} (hn:n < S.ts.length):Fin S 1 n (S.value n):=by
 unfold Src.value;refine aG (fun h=>?_) (fun _=>bz g (by decide) hn)
 exact (bz g (by decide) (g.more hn (by simp) h)).at (by omega)
theorem wK {mark:List UInt8} (hm:mark≠[]) {read:Nat→Out Pb} (hr:∀ k,k < S.ts.length→Fin S 1 k (read k)):∀ (f:Nat) (acc:List Pb) (n:Nat),n < S.ts.length→S.ts.length < f+n+1→Fin S 0 n (lL S mark read f acc n):=by
 intro f
 induction f with
 | zero=>intro acc n hn hf; omega
 | succ f ih =>
  intro acc n hn hf;unfold lL;refine aG (fun h=>?_) (fun _=>aB (Nat.le_refl _) hn)
  have h1:=g.more hn hm h;exact (ah (hr _ h1) (c:=1) (b:=0) (by omega) (fun x m hm hl=>ih _ m hl (by omega))).at (by omega)
theorem fO {F:Nat} (hF:S.ts.length≤F) {mark:List UInt8} (hm:mark≠[]) {read:Nat→Out Pb} (hr:∀ k,k < S.ts.length→Fin S 1 k (read k)) {n:Nat} (hn:n < S.ts.length):Fin S 1 n (gK S F mark read n):=by
 unfold gK;exact ah (hr n hn) (by omega) (fun x m hm2 hl=>wK g hm hr _ _ m hl (by omega))
section
variable {F:Nat} (hF:S.ts.length≤F) {rec:Nt→Nat→Nat→Out Pb} {d:Nat} (hrec:∀ nt k,k < S.ts.length→S.may nt k→Fin S 1 k (rec nt d k))
include hF hrec
theorem mD {n:Nat} (hn:n < S.ts.length):Fin S 1 n (dF S F rec d n):=by
 unfold dF;refine aG (fun h=>aB (by omega) (g.moreK hn (by have:=beq_iff_eq.1 h; omega))) (fun _=>aG (fun h=>?_) (fun _=>?_))
 ·have h1:=g.more hn (by simp) h
  refine (ah (fO g hF (by simp) (fun k hk=>hrec .ty k hk trivial) h1) (c:=0) (b:=0) (by omega) (fun l m hm hl=>?_)).at (by omega)
  refine (ah (aO g (by simp) hl) (b:=0) (by omega) (fun u m2 hm2 hl2=>?_))
  unfold qK
  split
  ·exact aB (by omega) hl2
  ·exact ah (fC g hl2) (b:=0) (by omega) (fun p m3 oU hl3=>aB (by omega) hl3)
 ·exact ah (fC g hn) (b:=0) (by omega) (fun p m3 oU hl3=>aB (by omega) hl3)
theorem nX (n:Nat):∀ (f:Nat) (b:Pb) (m:Nat),m < S.ts.length→S.ts.length < f+m+1→Fin S 0 m (dH S n f b m):=by
 have _:=hF;have _:=hrec;intro f
 induction f with
 | zero=>intro b m hn hf; omega
 | succ f ih =>
  intro b m hn hf;unfold dH;refine aG (fun h=>?_) (fun _=>aB (Nat.le_refl _) hn)
  exact ah (fC g hn) (b:=0) (by omega) (fun p m1 hm hl=>ih _ m1 hl (by omega))
theorem nK {n:Nat} (hn:n < S.ts.length):Fin S 1 n (dh S F rec d n):=by
 unfold dh;exact ah (mD g hF hrec hn) (b:=0) (by omega) (fun b m hm hl=>nX g hF hrec n _ _ m hl (by omega))
theorem nV {n:Nat} (hn:n < S.ts.length):Fin S 1 n (dX S F rec d n):=by
 unfold dX;exact ah (fO g hF (by simp) (fun k hk=>nK g hF hrec hk) hn) (b:=0) (by omega) (fun l m hm hl=>aB (by omega) hl)
theorem AV {n:Nat} (hn:n < S.ts.length):Fin S 1 n (tyO S F rec d n):=by
 unfold tyO;refine ah (nV g hF hrec hn) (b:=0) (by omega) (fun b m hm hl=>aG (fun h=>?_) (fun _=>aB (by omega) hl))
 exact (ah (hrec .ty _ (g.more hl (by simp) h) trivial) (b:=0) (c:=0) (by omega) (fun c m2 hm2 hl2=>aB (by omega) hl2)).at (by omega)
omit hrec in
theorem rC (fr:Nat) {member:Nat→Out Pb} (hm:∀ k,k < S.ts.length→Fin S 1 k (member k)) {n:Nat} (hn:n < S.ts.length):Fin S 1 n (iC S F fr member n):=by
 unfold iC;refine aG (fun h=>aB (by omega) (g.more hn (by simp) h)) (fun _=>?_)
 refine ah (fO g hF (by simp) hm hn) (b:=0) (by omega) (fun l m hm hl=>?_)
 exact ah (aO g (by simp) hl) (b:=0) (by omega) (fun u m2 hm2 hl2=>aB (by omega) hl2)
omit hrec in
theorem lG (named:Int) {member:Nat→Out Pb} (hm:∀ k,k < S.ts.length→Fin S 1 k (member k)) {n:Nat} (hn:n < S.ts.length):Fin S 1 n (plainO S F named member n):=by
 unfold plainO;refine aG (fun h=>aB (by omega) (g.moreK hn (by have:=beq_iff_eq.1 h; omega))) (fun _=>aG (fun h=>aB (by omega) (g.moreK hn (by have:=beq_iff_eq.1 h; omega))) (fun _=>aG (fun h=>?_) (fun _=>?_)))
 ·exact (rC g hF n hm (g.more hn (by simp) h)).at (by omega)
 ·exact ah (jL g hn) (b:=0) (by omega) (fun p m3 oU hl3=>aB (by omega) hl3)
theorem dN {n:Nat} (hn:n < S.ts.length):Fin S 1 n (bT S F rec d n):=by
 unfold bT;refine aG (fun h=>aB (by omega) (g.more hn (by simp) h)) (fun _=>aG (fun h=>?_) (fun _=>lG g hF 39 (fun k hk=>hrec .pat k hk trivial) hn))
 exact ah (gI g (by decide) hn) (b:=0) (by omega) (fun p m3 oU hl3=>aB (by omega) hl3)
theorem yc {n:Nat} (hn:n < S.ts.length):Fin S 1 n (nY S F rec d n):=by
 unfold nY;refine aG (fun h=>?_) (fun _=>aG (fun h=>?_) (fun _=>dN g hF hrec hn))
 ·simp only [Bool.and_eq_true,beq_iff_eq] at h
  have h1:=g.moreK hn (by omega);have h2:=g.more h1 (by simp) h.2;exact (ah (hrec .pat _ h2 trivial) (b:=0) (c:=0) (by omega) (fun c m2 hm2 hl2=>aB (by omega) hl2)).at (by omega)
 ·refine ah (gI g (by decide) hn) (b:=0) (by omega) (fun p m hm hl=>aG (fun _=>?_) (fun _=>aB (by omega) hl))
  exact ah (dN g hF hrec hl) (b:=0) (by omega) (fun p m3 oU hl3=>aB (by omega) hl3)
theorem uB (a:Nat):∀ (f:Nat) (acc:List Pb) (n:Nat),n < S.ts.length→S.ts.length < f+n+1→Fin S 0 n (jE S rec d a f acc n):=by
 have _:=hF;intro f
 induction f with
 | zero=>intro acc n hn hf; omega
 | succ f ih =>
  intro acc n hn hf;unfold jE;refine aG (fun h=>?_) (fun _=>aG (fun h=>?_) (fun _=>aB (Nat.le_refl _) hn))
  ·exact (ih acc (n+1) (g.more hn (by simp) h) (by omega)).at (by omega)
  ·exact ah (hrec (.dec a) n hn h) (b:=0) (by omega) (fun x m hm hl=>ih _ m hl (by omega))
theorem jP (a:Nat) {n:Nat} (hn:n < S.ts.length):Fin S 0 n (gZ S F rec d a n):=uB g hF hrec a _ _ n hn (by omega)
theorem iQ (a:Nat) {n:Nat} (hn:n < S.ts.length):Fin S 0 n (fB S F rec d a n):=by
 unfold fB;exact ah (jP g hF hrec a hn) (b:=0) (by omega) (fun l m hm hl=>aB (by omega) hl)
theorem mW {n:Nat} (hn:n < S.ts.length):Fin S 1 n (iI S F rec d n):=by
 unfold iI;refine aG (fun h=>?_) (fun _=>aG (fun h=>?_) (fun _=>lG g hF 28 (fun k hk=>hrec .exp k hk trivial) hn))
 ·exact ah (gI g (by decide) hn) (b:=0) (by omega) (fun p m hm hl=>aG (fun _=>aB (by omega) hl) (fun _=>aB (by omega) hl))
 ·have h1:=g.more hn (by simp) h
  refine (ah (iQ g hF hrec 0 h1) (b:=0) (c:=0) (by omega) (fun ds m hm hl=>?_)).at (by omega)
  refine ah (aO g (by simp) hl) (b:=0) (by omega) (fun u m2 hm2 hl2=>?_)
  refine ah (hrec .exp _ hl2 trivial) (b:=0) (by omega) (fun e m3 oU hl3=>?_)
  exact ah (aO g (by simp) hl3) (b:=0) (by omega) (fun u m4 hm4 hl4=>aB (by omega) hl4)
theorem uC:∀ (f:Nat) (acc:List Pb) (n:Nat),n < S.ts.length→S.ts.length < f+n+1→Fin S 0 n (jd S F rec d f acc n):=by
 intro f
 induction f with
 | zero=>intro acc n hn hf; omega
 | succ f ih =>
  intro acc n hn hf;unfold jd;refine aG (fun h=>?_) (fun _=>aB (Nat.le_refl _) hn)
  exact ah (mW g hF hrec hn) (b:=0) (by omega) (fun x m hm hl=>ih _ m hl (by omega))
theorem mQ {n:Nat} (hn:n < S.ts.length):Fin S 1 n (jH S F rec d n):=by
 unfold jH;refine ah (mW g hF hrec hn) (b:=0) (by omega) (fun b m hm hl=>?_)
 exact ah (uC g hF hrec _ _ m hl (by omega)) (b:=0) (by omega) (fun l m2 hm2 hl2=>aB (by omega) hl2)
theorem rG:∀ (f:Nat) (sg:List Nat) (acc:List Pb) (n:Nat),n < S.ts.length→S.ts.length < f+n+1→Fin S 0 n (iM S F rec d f sg acc n):=by
 intro f
 induction f with
 | zero=>intro sg acc n hn hf; omega
 | succ f ih =>
  intro sg acc n hn hf;unfold iM;refine aG (fun h=>?_) (fun _=>aB (Nat.le_refl _) hn)
  refine ah (bz g (by decide) hn) (b:=0) (by omega) (fun x m hm hl=>?_)
  exact ah (mQ g hF hrec hl) (b:=0) (by omega) (fun x m2 hm2 hl2=>ih _ _ m2 hl2 (by omega))
theorem qZ {n:Nat} (hn:n < S.ts.length):Fin S 1 n (gG S F rec d n):=by
 unfold gG;refine ah (mQ g hF hrec hn) (b:=0) (by omega) (fun b m hm hl=>?_)
 exact ah (rG g hF hrec _ _ _ m hl (by omega)) (b:=0) (by omega) (fun l m2 hm2 hl2=>aB (by omega) hl2)
theorem kK (k:Int) (fr:Nat) {n:Nat} (hn:n < S.ts.length):Fin S 1 n (fD S rec d k fr n):=by
 have _:=hF;unfold fD;refine ah (hrec .pat _ hn trivial) (b:=0) (by omega) (fun p m hm hl=>?_)
 refine ah (aO g (by simp) hl) (b:=0) (by omega) (fun u m2 hm2 hl2=>?_)
 exact ah (hrec .exp _ hl2 trivial) (b:=0) (by omega) (fun e m3 oU hl3=>aB (by omega) hl3)
theorem xX {n:Nat} (hn:n < S.ts.length):Fin S 1 n (yE S rec d n):=kK g hF hrec 33 n hn
theorem wY {n:Nat} (hn:n < S.ts.length):Fin S 1 n (ou S F rec d n):=by
 unfold ou;refine aG (fun h=>?_) (fun _=>aG (fun h=>?_) (fun _=>aG (fun h=>?_) (fun _=>qZ g hF hrec hn)))
 ·have h1:=g.more hn (by simp) h
  refine (ah (hrec .exp _ h1 trivial) (b:=0) (c:=0) (by omega) (fun a m hm hl=>?_)).at (by omega)
  refine ah (aO g (by simp) hl) (b:=0) (by omega) (fun u m2 hm2 hl2=>?_)
  refine ah (hrec .exp _ hl2 trivial) (b:=0) (by omega) (fun a m3 oU hl3=>?_)
  refine ah (aO g (by simp) hl3) (b:=0) (by omega) (fun u m4 hm4 hl4=>?_)
  exact ah (hrec .exp _ hl4 trivial) (b:=0) (by omega) (fun a m5 vV hl5=>aB (by omega) hl5)
 ·have h1:=g.more hn (by simp) h
  refine (ah (hrec .exp _ h1 trivial) (b:=0) (c:=0) (by omega) (fun a m hm hl=>?_)).at (by omega)
  refine ah (aO g (by simp) hl) (b:=0) (by omega) (fun u m2 hm2 hl2=>?_)
  exact ah (fO g hF (by simp) (fun k hk=>xX g hF hrec hk) hl2) (b:=0) (by omega) (fun a m3 oU hl3=>aB (by omega) hl3)
 ·exact (kK g hF hrec 34 n (g.more hn (by simp) h)).at (by omega)
omit hF hrec in
theorem uF:∀ (f:Nat) (n:Nat),n < S.ts.length→S.ts.length < f+n+1→Fin S 0 n (jy S f n):=by
 intro f
 induction f with
 | zero=>intro n hn hf; omega
 | succ f ih =>
  intro n hn hf;unfold jy;refine aG (fun h=>?_) (fun _=>aB (Nat.le_refl _) hn)
  exact (ah (bz g (by decide) (g.more hn (by simp) h)) (b:=0) (c:=0) (by omega) (fun x m hm hl=>ih m hl (by omega))).at (by omega)
omit hrec in
theorem gz {n:Nat} (hn:n < S.ts.length):Fin S 1 n (bU S F n):=by
 unfold bU;refine aG (fun h=>?_) (fun _=>aG (fun h=>?_) (fun _=>bz g (by decide) hn))
 ·exact (bz g (by decide) (g.moreK hn (by have:=beq_iff_eq.1 h; omega))).at (by omega)
 ·refine (ah (bz g (by decide) (g.more hn (by simp) h)) (b:=0) (c:=0) (by omega) (fun x m hm hl=>?_)).at (by omega)
  refine ah (uF g _ m hl (by omega)) (b:=0) (by omega) (fun u m2 hm2 hl2=>?_)
  refine ah (aO g (by simp) hl2) (b:=0) (by omega) (fun u m3 oU hl3=>?_)
  exact (bz g (by decide) hl3).le (by omega)
theorem wI {n:Nat} (hn:n < S.ts.length):Fin S 1 n (lZ S rec d n):=by
 have _:=hF;unfold lZ;refine ah (bz g (by decide) hn) (b:=0) (by omega) (fun x m hm hl=>aG (fun h=>?_) (fun _=>aB (by omega) hl))
 exact (ah (hrec .ty _ (g.more hl (by simp) h) trivial) (b:=0) (c:=0) (by omega) (fun c m2 hm2 hl2=>aB (by omega) hl2)).at (by omega)
theorem rV {n:Nat} (hn:n < S.ts.length):Fin S 1 n (gq S F rec d n):=by
 unfold gq;refine ah (gz g hF hn) (b:=0) (by omega) (fun x m hm hl=>?_)
 refine ah (aO g (by simp) hl) (b:=0) (by omega) (fun u m2 hm2 hl2=>?_)
 exact ah (fO g hF (by simp) (fun k hk=>wI g hF hrec hk) hl2) (b:=0) (by omega) (fun a m3 oU hl3=>aB (by omega) hl3)
theorem iO (fr:Nat) {n:Nat} (hn:n < S.ts.length):Fin S 1 n (bV S F rec d fr n):=by
 unfold bV;exact ah (fO g hF (by simp) (fun k hk=>rV g hF hrec hk) hn) (b:=0) (by omega) (fun a m3 oU hl3=>aB (by omega) hl3)
theorem ut {n:Nat} (hn:n < S.ts.length):Fin S 1 n (jG S F rec d n):=by
 unfold jG;refine aG (fun h=>?_) (fun _=>aG (fun h=>?_) (fun _=>aG (fun h=>?_) (fun _=>aG (fun h=>?_) (fun _=>?_))))
 ·refine (ah (jL g (g.more hn (by simp) h)) (b:=0) (c:=0) (by omega) (fun x m hm hl=>?_)).at (by omega)
  refine ah (aO g (by simp) hl) (b:=0) (by omega) (fun u m2 hm2 hl2=>?_)
  exact ah (hrec .ty _ hl2 trivial) (b:=0) (by omega) (fun a m5 vV hl5=>aB (by omega) hl5)
 ·refine (ah (gz g hF (g.more hn (by simp) h)) (b:=0) (c:=0) (by omega) (fun x m hm hl=>aG (fun h=>?_) (fun _=>aB (by omega) hl))).at (by omega)
  exact (ah (hrec .ty _ (g.more hl (by simp) h) trivial) (b:=0) (c:=0) (by omega) (fun c m2 hm2 hl2=>aB (by omega) hl2)).at (by omega)
 ·exact (iO g hF hrec n (g.more hn (by simp) h)).at (by omega)
 ·refine (ah (bz g (by decide) (g.more hn (by simp) h)) (b:=0) (c:=0) (by omega) (fun x m hm hl=>?_)).at (by omega)
  refine ah (aO g (by simp) hl) (b:=0) (by omega) (fun u m2 hm2 hl2=>?_)
  exact ah (hrec .sig _ hl2 trivial) (b:=0) (by omega) (fun a m5 vV hl5=>aB (by omega) hl5)
 ·refine ah (aO g (by simp) hn) (b:=0) (by omega) (fun u m2 hm2 hl2=>?_)
  exact ah (hrec .sig _ hl2 trivial) (b:=0) (by omega) (fun a m5 vV hl5=>aB (by omega) hl5)
theorem qY:∀ (f:Nat) (acc:List Pb) (n:Nat),n < S.ts.length→S.ts.length < f+n+1→Fin S 0 n (iF S F rec d f acc n):=by
 intro f
 induction f with
 | zero=>intro acc n hn hf; omega
 | succ f ih =>
  intro acc n hn hf;unfold iF;refine aG (fun h=>aB (by omega) (g.more hn (by simp) h)) (fun _=>aG (fun h=>?_) (fun _=>?_))
  ·exact (ih acc (n+1) (g.more hn (by simp) h) (by omega)).at (by omega)
  ·exact ah (ut g hF hrec hn) (b:=0) (by omega) (fun x m hm hl=>ih _ m hl (by omega))
theorem oz {n:Nat} (hn:n < S.ts.length):Fin S 1 n (dU S F rec d n):=by
 unfold dU;refine aG (fun h=>?_) (fun _=>?_)
 ·have h1:=g.more hn (by simp) h
  exact (ah (qY g hF hrec _ _ (n+1) h1 (by omega)) (b:=0) (c:=0) (by omega) (fun a m5 vV hl5=>aB (by omega) hl5)).at (by omega)
 ·exact ah (bz g (by decide) hn) (b:=0) (by omega) (fun a m5 vV hl5=>aB (by omega) hl5)
theorem rP (fr:Nat):∀ (f:Nat) (b:Pb) (n:Nat),n < S.ts.length→S.ts.length < f+n+1→Fin S 0 n (iK S rec d fr f b n):=by
 have _:=hF;intro f
 induction f with
 | zero=>intro b n hn hf; omega
 | succ f ih =>
  intro b n hn hf;unfold iK;refine aG (fun h=>?_) (fun _=>aB (Nat.le_refl _) hn)
  have h1:=g.more hn (by simp) h;refine (ah (aO g (by simp) h1) (b:=0) (c:=0) (by omega) (fun u m hm hl=>?_)).at (by omega)
  refine ah (fC g hl) (b:=0) (by omega) (fun p m2 hm2 hl2=>?_)
  refine ah (aO g (by simp) hl2) (b:=0) (by omega) (fun u m3 oU hl3=>?_)
  exact ah (hrec .ty _ hl3 trivial) (b:=0) (by omega) (fun c m4 hm4 hl4=>ih _ m4 hl4 (by omega))
theorem xu {n:Nat} (hn:n < S.ts.length):Fin S 1 n (oh S F rec d n):=by
 unfold oh;exact ah (oz g hF hrec hn) (b:=0) (by omega) (fun b m hm hl=>rP g hF hrec n _ _ m hl (by omega))
theorem nR {n:Nat} (hn:n < S.ts.length):Fin S 1 n (dV S F rec d n):=by
 unfold dV;refine aG (fun h=>?_) (fun _=>aG (fun h=>?_) (fun _=>?_))
 ·refine (ah (jP g hF hrec 1 (g.more hn (by simp) h)) (b:=0) (c:=0) (by omega) (fun l m hm hl=>?_)).at (by omega)
  exact ah (aO g (by simp) hl) (b:=0) (by omega) (fun u m2 hm2 hl2=>aB (by omega) hl2)
 ·simp only [Bool.and_eq_true,beq_iff_eq] at h
  have h1:=g.moreK hn (by omega);have h2:=g.more h1 (by simp) h.2;refine (ah (hrec .str _ h2 trivial) (b:=0) (c:=0) (by omega) (fun c m2 hm2 hl2=>?_)).at (by omega)
  exact ah (aO g (by simp) hl2) (b:=0) (by omega) (fun u m3 oU hl3=>aB (by omega) hl3)
 ·exact ah (gI g (by decide) hn) (b:=0) (by omega) (fun p m hm hl=>aB (by omega) hl)
theorem uo (fr:Nat):∀ (f:Nat) (b:Pb) (n:Nat),n < S.ts.length→S.ts.length < f+n+1→Fin S 0 n (kH S rec d fr f b n):=by
 have _:=hF;intro f
 induction f with
 | zero=>intro b n hn hf; omega
 | succ f ih =>
  intro b n hn hf;unfold kH;refine aG (fun _=>aB (Nat.le_refl _) hn) (fun h=>?_)
  have h2:=(iy g hn).2.2.1 (by simpa using h);have h1:=(iy g hn).1;rw [h2] at h1;exact (ah (hrec .sig _ h1 trivial) (b:=0) (c:=0) (by omega) (fun c m4 hm4 hl4=>ih _ m4 hl4 (by omega))).at (by omega)
theorem xR {n:Nat} (hn:n < S.ts.length):Fin S 1 n (nO S F rec d n):=by
 unfold nO;exact ah (nR g hF hrec hn) (b:=0) (by omega) (fun b m hm hl=>uo g hF hrec n _ _ m hl (by omega))
theorem mX {n:Nat} (hn:n < S.ts.length):Fin S 1 n (jw S rec d n):=by
 have _:=hF;unfold jw;refine ah (a:=0) (b:=1) (aG (fun _=>aB (Nat.le_refl _) hn) (fun h=>?_)) (by omega) (fun l m hm hl=>?_)
 ·have h2:=(iy g hn).2.2.1 (by simpa using h)
  have h1:=(iy g hn).1;rw [h2] at h1;exact (ah (hrec .sig _ h1 trivial) (b:=0) (c:=0) (by omega) (fun c m4 hm4 hl4=>aB (by omega) hl4)).at (by omega)
 ·refine ah (aO g (by simp) hl) (b:=0) (by omega) (fun u m2 hm2 hl2=>?_)
  exact ah (hrec .str _ hl2 trivial) (b:=0) (by omega) (fun c m4 hm4 hl4=>aB (by omega) hl4)
theorem lD (fr:Nat) {n:Nat} (hn:n < S.ts.length):Fin S 1 n (cO S rec d fr n):=by
 unfold cO;refine ah (bz g (by decide) hn) (b:=0) (by omega) (fun x m hm hl=>?_)
 exact ah (mX g hF hrec hl) (b:=0) (by omega) (fun c m4 hm4 hl4=>aB (by omega) hl4)
theorem oK (fr:Nat) {n:Nat} (hn:n < S.ts.length):Fin S 1 n (dS S rec d fr n):=by
 unfold dS;refine ah (bz g (by decide) hn) (b:=0) (by omega) (fun x m hm hl=>?_)
 refine ah (aO g (by simp) hl) (b:=0) (by omega) (fun u m2 hm2 hl2=>?_)
 refine ah (bz g (by decide) hl2) (b:=0) (by omega) (fun x m3 oU hl3=>?_)
 refine ah (aO g (by simp) hl3) (b:=0) (by omega) (fun u m4 hm4 hl4=>?_)
 refine ah (hrec .sig _ hl4 trivial) (b:=0) (by omega) (fun c m5 vV hl5=>?_)
 refine ah (aO g (by simp) hl5) (b:=0) (by omega) (fun u m6 hm6 Y8=>?_)
 exact ah (mX g hF hrec Y8) (b:=0) (by omega) (fun c m7 hm7 Y9=>aB (by omega) Y9)
theorem wJ:∀ (f:Nat) (acc:List Pb) (n:Nat),n < S.ts.length→S.ts.length < f+n+1→Fin S 0 n (pI S F rec d f acc n):=by
 intro f
 induction f with
 | zero=>intro acc n hn hf; omega
 | succ f ih =>
  intro acc n hn hf;unfold pI;refine aG (fun h=>?_) (fun _=>aB (Nat.le_refl _) hn)
  exact ah (dN g hF hrec hn) (b:=0) (by omega) (fun x m hm hl=>ih _ m hl (by omega))
theorem mF {n:Nat} (hn:n < S.ts.length):Fin S 1 n (cZ S F rec d n):=by
 unfold cZ;refine ah (jL g hn) (b:=0) (by omega) (fun x m hm hl=>?_)
 refine ah (dN g hF hrec hl) (b:=0) (by omega) (fun x m2 hm2 hl2=>?_)
 refine ah (wJ g hF hrec _ _ m2 hl2 (by omega)) (b:=0) (by omega) (fun x m3 oU hl3=>?_)
 refine ah (aO g (by simp) hl3) (b:=0) (by omega) (fun u m4 hm4 hl4=>?_)
 exact ah (hrec .exp _ hl4 trivial) (b:=0) (by omega) (fun c m5 vV hl5=>aB (by omega) hl5)
theorem rQ (fr a:Nat) {n:Nat} (hn:n < S.ts.length):Fin S 1 n (iE S F rec d fr a n):=by
 unfold iE;refine ah (iQ g hF hrec a hn) (b:=1) (by omega) (fun x m hm hl=>?_)
 refine ah (aO g (by simp) hl) (b:=0) (by omega) (fun u m2 hm2 hl2=>?_)
 refine ah (iQ g hF hrec a hl2) (b:=0) (by omega) (fun x m3 oU hl3=>?_)
 exact ah (aO g (by simp) hl3) (b:=0) (by omega) (fun u m4 hm4 hl4=>aB (by omega) hl4)
theorem xy (a:Nat) {n:Nat} (hn1:n+1 < S.ts.length):Fin S 1 n (nS S F rec d a n):=by
 unfold nS;refine aG (fun h=>?_) (fun _=>aG (fun h=>?_) (fun _=>aG (fun h=>?_) (fun _=>aG (fun h=>?_) (fun _=>aG (fun h=>?_) (fun _=>aG (fun h=>?_) (fun _=>aG (fun h=>?_) (fun _=>aG (fun h=>?_) (fun _=>?_))))))))
 ·refine (ah (hrec .pat _ hn1 trivial) (b:=0) (c:=0) (by omega) (fun x m hm hl=>?_)).at (by omega)
  refine ah (aO g (by simp) hl) (b:=0) (by omega) (fun u m2 hm2 hl2=>?_)
  exact ah (hrec .exp _ hl2 trivial) (b:=0) (by omega) (fun c m5 vV hl5=>aB (by omega) hl5)
 ·exact (ah (fO g hF (by simp) (fun k hk=>mF g hF hrec hk) hn1) (b:=0) (c:=0) (by omega) (fun a m3 oU hl3=>aB (by omega) hl3)).at (by omega)
 ·refine (ah (gz g hF hn1) (b:=0) (c:=0) (by omega) (fun x m hm hl=>?_)).at (by omega)
  refine ah (aO g (by simp) hl) (b:=0) (by omega) (fun u m2 hm2 hl2=>?_)
  exact ah (hrec .ty _ hl2 trivial) (b:=0) (by omega) (fun c m5 vV hl5=>aB (by omega) hl5)
 ·exact (iO g hF hrec n hn1).at (by omega)
 ·exact (lD g hF hrec n hn1).at (by omega)
 ·refine (ah (bz g (by decide) hn1) (b:=0) (c:=0) (by omega) (fun x m hm hl=>?_)).at (by omega)
  refine ah (aO g (by simp) hl) (b:=0) (by omega) (fun u m2 hm2 hl2=>?_)
  exact ah (hrec .sig _ hl2 trivial) (b:=0) (by omega) (fun c m5 vV hl5=>aB (by omega) hl5)
 ·exact (oK g hF hrec n hn1).at (by omega)
 ·exact (ah (gI g (by decide) hn1) (b:=0) (c:=0) (by omega) (fun c m5 vV hl5=>aB (by omega) hl5)).at (by omega)
 ·exact (rQ g hF hrec n a hn1).at (by omega)
end
theorem uM:∀ (f:Nat) (nt:Nt) (d n:Nat),d≤256→n < S.ts.length→S.may nt n→S.ts.length+257≤f+d→Fin S 1 n (parts S f nt d n):=by
 intro f
 induction f with
 | zero=>intro nt d n hd hn _ hf; omega
 | succ f ih =>
  intro nt d n hd hn hmay hf;unfold parts;refine aG (fun _=>by show _ < S.ts.length; omega) (fun h=>?_)
  have h256:d≠256:=by simpa using h
  have hrec:∀ nt k,k < S.ts.length→S.may nt k→Fin S 1 k (parts S f nt (d+1) k):=fun nt k hk hm=>ih nt (d+1) k (by omega) hk hm (by omega)
  have hF:S.ts.length≤f:=by omega
  cases nt with
  | exp=>exact wY g hF hrec hn
  | pat=>exact yc g hF hrec hn
  | ty=>exact AV g hF hrec hn
  | sig=>exact xu g hF hrec hn
  | str=>exact xR g hF hrec hn
  | dec a=>exact xy g hF hrec a (mG g hn hmay)
theorem ul {F:Nat} (hF:S.ts.length+257≤F) {n:Nat} (hn:n < S.ts.length):Fin S 0 n (jo S F n):=by
 unfold jo;exact ah (jP g (F:=F) (by omega) (rec:=parts S F) (d:=0) (fun nt k hk hm=>uM g F nt 0 k (by omega) hk hm (by omega)) 2 hn) (b:=0) (by omega) (fun l m hm hl=>aB (by omega) hl)
end
end Inn
end Go.Proofs.YtmpmfamiegpmgaaGreatDoor
