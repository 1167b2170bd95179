/-
  The plain parser goes the same way on tokens that stand further on.; The plain parser goes the same way on tokens that stand further on: each part.; A text's tokens follow one another: plain facts.; A token's own text is one token, of its kind: plain facts.; Two texts with a line end between them: plain facts.; The plain parser goes the same way where a text goes on with a semicolon.; The plain parser goes the same way where a text goes on with a semicolon: each part.; The plain parser over two texts with a semicolon between them.; Two texts with a semicolon between them: where the second is no file; the tokens.; The tokens of two texts with a semicolon on a line of its own between them.; The first trouble of two texts with a semicolon between them.; The outcome of two texts with a semicolon between them.; Where a text is no part, the place is within: so much more than the same names outside say.
-/
import Derived.Test.YtifoodfbgghplaaGreatDoorPath
import Derived.Test.YtifoodfbgghplaaGreatDoorTy
import Derived.Test.YtifoodfbgghplaaGreatDoorFirst
import Derived.Test.YtifoodfbgghplaaGreatDoorKeep
import Derived.Test.YtifoodfbgghplaaGreatDoorFiles
import Derived.KernelRfl
namespace Go.Proofs.YtifoodfbgghplaaGreatDoor
open Go.RowKit
set_option linter.unusedVariables false
set_option linter.unusedSimpArgs false

mutual
/-- A branch, so many tokens on. -/
def Pb.on (k : Nat) : Pb → Pb
 | .mk a m f t ns ks => .mk a m (f + k) (t + k) (ns.map fun x => x + k) (onL k ks)
def onL (k : Nat) : List Pb → List Pb
 | [] => []
 | b :: r => b.on k :: onL k r
end
theorem onL_map (k : Nat) (l : List Pb) : onL k l = l.map (Pb.on k) := by
 induction l with
 | nil => rfl
 | cons x r ih => simp only [onL, List.map_cons, ih]
/-- What a call comes to, so many tokens on. -/
def Out.on {α : Type} (k : Nat) (g : α → α) : Out α → Out α
 | .ok a n => .ok (g a) (n + k)
 | .form n => .form (n + k)
 | .deep n => .deep (n + k)
 | .dry => .dry
/-- Where the one is not dry, the other one is it, so many tokens on. -/
def Rel {α : Type} (k : Nat) (g : α → α) (o o' : Out α) : Prop := o ≠ .dry → o' = o.on k g
theorem rel_bind {α β : Type} {k : Nat} {g : α → α} {h : β → β} {o o' : Out α} {f f' : α → Nat → Out β} (ho : Rel k g o o') (hf : ∀ x n, o = .ok x n → Rel k h (f x n) (f' (g x) (n + k))) : Rel k h (o.bind f) (o'.bind f') := by
 intro hnd
 rw [ho (bind_dry hnd)]
 cases o with
 | ok x n => exact hf x n rfl hnd
 | form n => rfl
 | deep n => rfl
 | dry => exact absurd rfl hnd
theorem rel_if {α : Type} {k : Nat} {g : α → α} {c c' : Bool} {a b a' b' : Out α} (hc : c' = c) (ha : c = true → Rel k g a a') (hb : c = false → Rel k g b b') : Rel k g (bif c then a else b) (bif c' then a' else b') := by
 subst hc
 cases c'
 ·exact hb rfl
 ·exact ha rfl
theorem rel_ok {α : Type} {k : Nat} {g : α → α} {x x' : α} {m m' : Nat} (hx : x' = g x) (hm : m' = m + k) : Rel k g (.ok x m) (.ok x' m') := fun _ => by rw [hx, hm]; rfl
theorem rel_form {α : Type} {k : Nat} {g : α → α} {m m' : Nat} (hm : m' = m + k) : Rel k g (.form m) (.form m') := fun _ => by rw [hm]; rfl
theorem rel_at {α : Type} {k : Nat} {g : α → α} {o : Out α} {f : Nat → Out α} {m m' : Nat} (h : Rel k g o (f m)) (e : m' = m) : Rel k g o (f m') := by rw [e]; exact h
theorem node_on (k : Nat) (a : Int) (f t : Nat) (ns : List Nat) (ks : List Pb) : (node a f t ns ks).on k = node a (f + k) (t + k) (ns.map fun x => x + k) (ks.map (Pb.on k)) := by
 simp only [node, Pb.on, onL_map, Pb.mk.injEq, List.map_map, true_and, and_true]
 refine ⟨by omega, by omega, ?_⟩
 apply List.map_congr_left
 intro x _
 simp
theorem marked_on (k : Nat) (m : Int) (b : Pb) : (marked m b).on k = marked m (b.on k) := by cases b; rfl
theorem oneOr_on (k : Nat) (l : List Pb) (a : Int) (f t : Nat) (ns : List Nat) : (oneOr l a f t ns).on k = oneOr (l.map (Pb.on k)) a (f + k) (t + k) (ns.map fun x => x + k) := by
 match l with
 | [] => exact node_on k a f t ns []
 | [b] => rfl
 | b :: c :: r => exact node_on k a f t ns (b :: c :: r)
abbrev addN (k : Nat) : Nat → Nat := fun x => x + k
abbrev addL (k : Nat) : List Nat → List Nat := List.map (addN k)
/-- S' has the tokens of S, so many further on. -/
structure Sh (S S' : Src) (k : Nat) : Prop where
 kd : ∀ i, S'.kd (i + k) = S.kd i
 tx : ∀ i, S'.tx (i + k) = S.tx i
 len : S.ts.length ≤ S'.ts.length
section
variable {S S' : Src} {k : Nat}
theorem Sh.is (H : Sh S S' k) (n : Nat) (t : List UInt8) : S'.is (n + k) t = S.is n t := by unfold Src.is; rw [H.tx]
theorem need_on (H : Sh S S' k) (t : List UInt8) (n : Nat) : Rel k id (S.need t n) (S'.need t (n + k)) := by
 unfold Src.need
 exact rel_if (H.is n t) (fun _ => rel_ok rfl (by omega)) (fun _ => rel_form rfl)
theorem take_on (H : Sh S S' k) (ks : List Int) (n : Nat) : Rel k (addN k) (S.take ks n) (S'.take ks (n + k)) := by
 unfold Src.take
 rw [H.kd]
 exact rel_if rfl (fun _ => rel_ok rfl (by omega)) (fun _ => rel_form rfl)
theorem take_pos {ks : List Int} {n x m : Nat} (h : S.take ks n = .ok x m) : 0 < m := by
 unfold Src.take at h
 cases hc : ks.contains (S.kd n) <;> rw [hc] at h
 ·cases h
 ·simp only [cond_true, Out.ok.injEq] at h; omega
theorem pathL_on (H : Sh S S' k) (ks : List Int) : ∀ (f f' : Nat) (acc : List Nat) (n : Nat), f ≤ f' → 0 < n → Rel k (addL k) (S.pathL ks f acc n) (S'.pathL ks f' (addL k acc) (n + k)) := by
 intro f
 induction f with
 | zero => intro f' acc n _ _ h; exact absurd rfl h
 | succ f ih =>
  intro f' acc n hf hn
  obtain ⟨q, rfl⟩ : ∃ q, f' = q + 1 := ⟨f' - 1, by omega⟩
  unfold Src.pathL
  rw [show n + k - 1 = n - 1 + k by omega, H.kd, H.is]
  refine rel_if rfl (fun _ => ?_) (fun _ => rel_ok rfl rfl)
  rw [Nat.add_right_comm]
  refine rel_bind (take_on H ks (n + 1)) (fun x m hx => ?_)
  have := ih q (acc ++ [x]) m (by omega) (take_pos hx)
  simpa [addL] using this
theorem pathL_pos {ks : List Int} : ∀ {f : Nat} {acc p : List Nat} {n m : Nat}, 0 < n → S.pathL ks f acc n = .ok p m → 0 < m := by
 intro f acc p n m hn h
 have := pathL_lt h
 omega
theorem path_on (H : Sh S S' k) (ks : List Int) (n : Nat) : Rel k (addL k) (S.path ks n) (S'.path ks (n + k)) := by
 unfold Src.path
 exact rel_bind (take_on H ks n) (fun x m hx => pathL_on H ks _ _ [x] m H.len (take_pos hx))
theorem path_pos {ks : List Int} {n m : Nat} {p : List Nat} (h : S.path ks n = .ok p m) : 0 < m := by have := path_lt h; omega
theorem typePath_on (H : Sh S S' k) (n : Nat) : Rel k (addL k) (S.typePath n) (S'.typePath (n + k)) := by
 unfold Src.typePath
 refine rel_bind (path_on H [7, 6] n) (fun p m hp => ?_)
 have := path_pos hp
 rw [show m + k - 1 = m - 1 + k by omega, H.kd]
 exact rel_if rfl (fun _ => rel_ok rfl rfl) (fun _ => rel_form rfl)
theorem value_on (H : Sh S S' k) (n : Nat) : Rel k (addN k) (S.value n) (S'.value (n + k)) := by
 unfold Src.value
 exact rel_if (H.is n _) (fun _ => by rw [Nat.add_right_comm]; exact take_on H _ _) (fun _ => take_on H _ _)
theorem Sh.begins (H : Sh S S' k) (o : List (List UInt8)) (n : Nat) : S'.begins o (n + k) = S.begins o n := by
 unfold Src.begins Src.beginsK
 rw [H.kd, H.is, H.is]
 congr 1
 congr 1
 funext t
 exact H.is n t
theorem Sh.colon (H : Sh S S' k) (n : Nat) : S'.colon (n + k) = ((S.colon n).1, (S.colon n).2 + k) := by
 unfold Src.colon
 rw [H.is, H.is]
 cases S.is n [58]
 ·cases S.is n [58, 62]
  ·rfl
  ·simp; omega
 ·simp; omega
theorem Sh.declares (H : Sh S S' k) (a n : Nat) : declares S' a (n + k) = declares S a n := by
 unfold Go.Proofs.YtifoodfbgghplaaGreatDoor.declares
 simp only [H.is]
theorem rowL_on (H : Sh S S' k) (mark : List UInt8) {read read' : Nat → Out Pb} (hr : ∀ n, Rel k (Pb.on k) (read n) (read' (n + k))) : ∀ (f f' : Nat) (acc : List Pb) (n : Nat), f ≤ f' → Rel k (List.map (Pb.on k)) (rowL S mark read f acc n) (rowL S' mark read' f' (acc.map (Pb.on k)) (n + k)) := by
 intro f
 induction f with
 | zero => intro f' acc n _ h; exact absurd rfl h
 | succ f ih =>
  intro f' acc n hf
  obtain ⟨q, rfl⟩ : ∃ q, f' = q + 1 := ⟨f' - 1, by omega⟩
  unfold rowL
  refine rel_if (H.is n mark) (fun _ => ?_) (fun _ => rel_ok rfl rfl)
  rw [Nat.add_right_comm]
  refine rel_bind (hr (n + 1)) (fun b m _ => ?_)
  have := ih q (acc ++ [b]) m (by omega)
  simpa using this
theorem rowO_on (H : Sh S S' k) {F F' : Nat} (hF : F ≤ F') (mark : List UInt8) {read read' : Nat → Out Pb} (hr : ∀ n, Rel k (Pb.on k) (read n) (read' (n + k))) (n : Nat) : Rel k (List.map (Pb.on k)) (rowO S F mark read n) (rowO S' F' mark read' (n + k)) := by
 unfold rowO
 exact rel_bind (hr n) (fun b m _ => rowL_on H mark hr F F' [b] m hF)
end
end Go.Proofs.YtifoodfbgghplaaGreatDoor

namespace Go.Proofs.YtifoodfbgghplaaGreatDoor
open Go.RowKit
set_option maxRecDepth 20000
set_option linter.unusedVariables false
set_option linter.unusedSimpArgs false

section
variable {S S' : Src} {k : Nat}
theorem atomicTy_on (H : Sh S S' k) {F F' : Nat} (hF : F ≤ F') {rec rec' : Nt → Nat → Nat → Out Pb} {d : Nat} (hr : ∀ nt n, Rel k (Pb.on k) (rec nt d n) (rec' nt d (n + k))) (n : Nat) : Rel k (Pb.on k) (atomicTyO S F rec d n) (atomicTyO S' F' rec' d (n + k)) := by
 unfold atomicTyO
 refine rel_if (by rw [H.kd]) (fun _ => rel_ok (by simp [node_on, Nat.add_right_comm]) (by omega)) (fun _ => rel_if (H.is n _) (fun _ => ?_) (fun _ => ?_))
 ·rw [Nat.add_right_comm]
  refine rel_bind (rowO_on H hF [44] (hr .ty) (n + 1)) (fun l m _ => ?_)
  refine rel_bind (need_on H [41] m) (fun u m2 _ => ?_)
  match l with
  | [b] => exact rel_ok rfl rfl
  | [] => exact rel_bind (typePath_on H m2) (fun p m3 _ => rel_ok (by simp [node_on, Nat.add_right_comm]) (by omega))
  | a :: b :: c => exact rel_bind (typePath_on H m2) (fun p m3 _ => rel_ok (by simp [node_on, Nat.add_right_comm]) (by omega))
 ·exact rel_bind (typePath_on H n) (fun p m3 _ => rel_ok (by simp [node_on, Nat.add_right_comm]) (by omega))
theorem appliedL_on (H : Sh S S' k) (n : Nat) : ∀ (f f' : Nat) (b : Pb) (m : Nat), f ≤ f' → Rel k (Pb.on k) (appliedL S n f b m) (appliedL S' (n + k) f' (b.on k) (m + k)) := by
 intro f
 induction f with
 | zero => intro f' b m _ h; exact absurd rfl h
 | succ f ih =>
  intro f' b m hf
  obtain ⟨q, rfl⟩ : ∃ q, f' = q + 1 := ⟨f' - 1, by omega⟩
  unfold appliedL
  refine rel_if (by rw [H.kd]) (fun _ => ?_) (fun _ => rel_ok rfl rfl)
  refine rel_bind (typePath_on H m) (fun p m1 _ => ?_)
  have := ih q (node 42 n m1 p [b]) m1 (by omega)
  rwa [node_on] at this
theorem applied_on (H : Sh S S' k) {F F' : Nat} (hF : F ≤ F') {rec rec' : Nt → Nat → Nat → Out Pb} {d : Nat} (hr : ∀ nt n, Rel k (Pb.on k) (rec nt d n) (rec' nt d (n + k))) (n : Nat) : Rel k (Pb.on k) (appliedO S F rec d n) (appliedO S' F' rec' d (n + k)) := by
 unfold appliedO
 exact rel_bind (atomicTy_on H hF hr n) (fun b m _ => appliedL_on H n F F' b m hF)
theorem product_on (H : Sh S S' k) {F F' : Nat} (hF : F ≤ F') {rec rec' : Nt → Nat → Nat → Out Pb} {d : Nat} (hr : ∀ nt n, Rel k (Pb.on k) (rec nt d n) (rec' nt d (n + k))) (n : Nat) : Rel k (Pb.on k) (productO S F rec d n) (productO S' F' rec' d (n + k)) := by
 unfold productO
 exact rel_bind (rowO_on H hF [42] (fun n => applied_on H hF hr n) n) (fun l m _ => rel_ok (by simp [oneOr_on]) rfl)
theorem ty_on (H : Sh S S' k) {F F' : Nat} (hF : F ≤ F') {rec rec' : Nt → Nat → Nat → Out Pb} {d : Nat} (hr : ∀ nt n, Rel k (Pb.on k) (rec nt d n) (rec' nt d (n + k))) (n : Nat) : Rel k (Pb.on k) (tyO S F rec d n) (tyO S' F' rec' d (n + k)) := by
 unfold tyO
 refine rel_bind (product_on H hF hr n) (fun b m _ => rel_if (H.is m _) (fun _ => ?_) (fun _ => rel_ok rfl rfl))
 rw [Nat.add_right_comm]
 exact rel_bind (hr .ty (m + 1)) (fun c m2 _ => rel_ok (by simp [node_on, Nat.add_right_comm]) (by omega))
theorem tuple_on (H : Sh S S' k) {F F' : Nat} (hF : F ≤ F') (fr : Nat) {mem mem' : Nat → Out Pb} (hm : ∀ n, Rel k (Pb.on k) (mem n) (mem' (n + k))) (n : Nat) : Rel k (Pb.on k) (tupleO S F fr mem n) (tupleO S' F' (fr + k) mem' (n + k)) := by
 unfold tupleO
 refine rel_if (H.is n _) (fun _ => rel_ok (by simp [node_on, Nat.add_right_comm]) (by omega)) (fun _ => ?_)
 refine rel_bind (rowO_on H hF [44] hm n) (fun l m _ => ?_)
 exact rel_bind (need_on H [41] m) (fun u m2 _ => rel_ok (by simp [oneOr_on]) rfl)
theorem plain_on (H : Sh S S' k) {F F' : Nat} (hF : F ≤ F') (nm : Int) {mem mem' : Nat → Out Pb} (hm : ∀ n, Rel k (Pb.on k) (mem n) (mem' (n + k))) (n : Nat) : Rel k (Pb.on k) (plainO S F nm mem n) (plainO S' F' nm mem' (n + k)) := by
 unfold plainO
 refine rel_if (by rw [H.kd]) (fun _ => rel_ok (by simp [node_on, Nat.add_right_comm]) (by omega)) (fun _ => rel_if (by rw [H.kd]) (fun _ => rel_ok (by simp [node_on, Nat.add_right_comm]) (by omega)) (fun _ => rel_if (H.is n _) (fun _ => ?_) (fun _ => ?_)))
 ·rw [Nat.add_right_comm]; exact tuple_on H hF n hm (n + 1)
 ·exact rel_bind (value_on H n) (fun m m2 _ => rel_ok (by simp [node_on, Nat.add_right_comm]) (by omega))
theorem atomicPat_on (H : Sh S S' k) {F F' : Nat} (hF : F ≤ F') {rec rec' : Nt → Nat → Nat → Out Pb} {d : Nat} (hr : ∀ nt n, Rel k (Pb.on k) (rec nt d n) (rec' nt d (n + k))) (n : Nat) : Rel k (Pb.on k) (atomicPatO S F rec d n) (atomicPatO S' F' rec' d (n + k)) := by
 unfold atomicPatO
 refine rel_if (H.is n _) (fun _ => rel_ok (by simp [node_on, Nat.add_right_comm]) (by omega)) (fun _ => rel_if (by rw [H.kd]) (fun _ => ?_) (fun _ => plain_on H hF 39 (hr .pat) n))
 exact rel_bind (path_on H [7] n) (fun p m _ => rel_ok (by simp [node_on, Nat.add_right_comm]) (by omega))
theorem pat_on (H : Sh S S' k) {F F' : Nat} (hF : F ≤ F') {rec rec' : Nt → Nat → Nat → Out Pb} {d : Nat} (hr : ∀ nt n, Rel k (Pb.on k) (rec nt d n) (rec' nt d (n + k))) (n : Nat) : Rel k (Pb.on k) (patO S F rec d n) (patO S' F' rec' d (n + k)) := by
 unfold patO
 refine rel_if (by rw [H.kd, show n + k + 1 = n + 1 + k by omega, H.is]) (fun _ => ?_) (fun _ => rel_if (by rw [H.kd]) (fun _ => ?_) (fun _ => atomicPat_on H hF hr n))
 ·rw [show n + k + 2 = n + 2 + k by omega]
  exact rel_bind (hr .pat (n + 2)) (fun c m2 _ => rel_ok (by simp [node_on, Nat.add_right_comm]) (by omega))
 ·refine rel_bind (path_on H [7] n) (fun p m _ => rel_if (H.begins _ m) (fun _ => ?_) (fun _ => rel_ok (by simp [node_on, Nat.add_right_comm]) (by omega)))
  exact rel_bind (atomicPat_on H hF hr m) (fun c m2 _ => rel_ok (by simp [node_on, Nat.add_right_comm]) (by omega))
theorem decsL_on (H : Sh S S' k) {F F' : Nat} (hF : F ≤ F') {rec rec' : Nt → Nat → Nat → Out Pb} {d : Nat} (hr : ∀ nt n, Rel k (Pb.on k) (rec nt d n) (rec' nt d (n + k))) (a : Nat) : ∀ (f f' : Nat) (acc : List Pb) (n : Nat), f ≤ f' → Rel k (List.map (Pb.on k)) (decsL S rec d a f acc n) (decsL S' rec' d a f' (acc.map (Pb.on k)) (n + k)) := by
 intro f
 induction f with
 | zero => intro f' acc n _ h; exact absurd rfl h
 | succ f ih =>
  intro f' acc n hf
  obtain ⟨q, rfl⟩ : ∃ q, f' = q + 1 := ⟨f' - 1, by omega⟩
  unfold decsL
  refine rel_if (H.is n _) (fun _ => ?_) (fun _ => rel_if (H.declares a n) (fun _ => ?_) (fun _ => rel_ok rfl rfl))
  ·rw [Nat.add_right_comm]; exact ih q acc (n + 1) (by omega)
  ·refine rel_bind (hr (.dec a) n) (fun b m _ => ?_)
   have := ih q (acc ++ [b]) m (by omega)
   simpa using this
theorem decs_on (H : Sh S S' k) {F F' : Nat} (hF : F ≤ F') {rec rec' : Nt → Nat → Nat → Out Pb} {d : Nat} (hr : ∀ nt n, Rel k (Pb.on k) (rec nt d n) (rec' nt d (n + k))) (a n : Nat) : Rel k (List.map (Pb.on k)) (decsO S F rec d a n) (decsO S' F' rec' d a (n + k)) := by
 exact decsL_on H hF hr a F F' [] n hF
theorem within_on (H : Sh S S' k) {F F' : Nat} (hF : F ≤ F') {rec rec' : Nt → Nat → Nat → Out Pb} {d : Nat} (hr : ∀ nt n, Rel k (Pb.on k) (rec nt d n) (rec' nt d (n + k))) (a n : Nat) : Rel k (Pb.on k) (withinO S F rec d a n) (withinO S' F' rec' d a (n + k)) := by
 unfold withinO
 exact rel_bind (decs_on H hF hr a n) (fun l m _ => rel_ok (by simp [node_on, Nat.add_right_comm]) (by omega))
theorem atom_on (H : Sh S S' k) {F F' : Nat} (hF : F ≤ F') {rec rec' : Nt → Nat → Nat → Out Pb} {d : Nat} (hr : ∀ nt n, Rel k (Pb.on k) (rec nt d n) (rec' nt d (n + k))) (n : Nat) : Rel k (Pb.on k) (atomO S F rec d n) (atomO S' F' rec' d (n + k)) := by
 unfold atomO
 refine rel_if (by rw [H.kd]) (fun _ => ?_) (fun _ => rel_if (H.is n _) (fun _ => ?_) (fun _ => plain_on H hF 28 (hr .exp) n))
 ·refine rel_bind (path_on H [7, 6] n) (fun p m hp => ?_)
  have := path_pos hp
  rw [show m + k - 1 = m - 1 + k by omega, H.kd]
  exact rel_if rfl (fun _ => rel_ok (by simp [node_on, Nat.add_right_comm]) (by omega)) (fun _ => rel_ok (by simp [node_on, Nat.add_right_comm]) (by omega))
 ·rw [Nat.add_right_comm]
  refine rel_bind (within_on H hF hr 0 (n + 1)) (fun ds m _ => ?_)
  refine rel_bind (need_on H _ m) (fun u m2 _ => ?_)
  refine rel_bind (hr .exp m2) (fun e m3 _ => ?_)
  exact rel_bind (need_on H _ m3) (fun u m4 _ => rel_ok (by simp [node_on, Nat.add_right_comm]) (by omega))
theorem callL_on (H : Sh S S' k) {F F' : Nat} (hF : F ≤ F') {rec rec' : Nt → Nat → Nat → Out Pb} {d : Nat} (hr : ∀ nt n, Rel k (Pb.on k) (rec nt d n) (rec' nt d (n + k))) : ∀ (f f' : Nat) (acc : List Pb) (n : Nat), f ≤ f' → Rel k (List.map (Pb.on k)) (callL S F rec d f acc n) (callL S' F' rec' d f' (acc.map (Pb.on k)) (n + k)) := by
 intro f
 induction f with
 | zero => intro f' acc n _ h; exact absurd rfl h
 | succ f ih =>
  intro f' acc n hf
  obtain ⟨q, rfl⟩ : ∃ q, f' = q + 1 := ⟨f' - 1, by omega⟩
  unfold callL
  refine rel_if (H.begins _ n) (fun _ => ?_) (fun _ => rel_ok rfl rfl)
  ·refine rel_bind (atom_on H hF hr n) (fun b m _ => ?_)
   have := ih q (acc ++ [b]) m (by omega)
   simpa using this
theorem call_on (H : Sh S S' k) {F F' : Nat} (hF : F ≤ F') {rec rec' : Nt → Nat → Nat → Out Pb} {d : Nat} (hr : ∀ nt n, Rel k (Pb.on k) (rec nt d n) (rec' nt d (n + k))) (n : Nat) : Rel k (Pb.on k) (callO S F rec d n) (callO S' F' rec' d (n + k)) := by
 unfold callO
 refine rel_bind (atom_on H hF hr n) (fun b m _ => ?_)
 exact rel_bind (callL_on H hF hr F F' [b] m hF) (fun l m2 _ => rel_ok (by simp [oneOr_on]) rfl)
abbrev onI (k : Nat) : List Nat × List Pb → List Nat × List Pb := fun l => (addL k l.1, l.2.map (Pb.on k))
theorem infixL_on (H : Sh S S' k) {F F' : Nat} (hF : F ≤ F') {rec rec' : Nt → Nat → Nat → Out Pb} {d : Nat} (hr : ∀ nt n, Rel k (Pb.on k) (rec nt d n) (rec' nt d (n + k))) : ∀ (f f' : Nat) (sg : List Nat) (acc : List Pb) (n : Nat), f ≤ f' → Rel k (onI k) (infixL S F rec d f sg acc n) (infixL S' F' rec' d f' (addL k sg) (acc.map (Pb.on k)) (n + k)) := by
 intro f
 induction f with
 | zero => intro f' sg acc n _ h; exact absurd rfl h
 | succ f ih =>
  intro f' sg acc n hf
  obtain ⟨q, rfl⟩ : ∃ q, f' = q + 1 := ⟨f' - 1, by omega⟩
  unfold infixL
  refine rel_if (by rw [H.kd]) (fun _ => ?_) (fun _ => rel_ok rfl rfl)
  refine rel_bind (take_on H [9] n) (fun x m _ => ?_)
  refine rel_bind (call_on H hF hr m) (fun b m2 _ => ?_)
  have := ih q (sg ++ [x]) (acc ++ [b]) m2 (by omega)
  simpa [addL] using this
theorem infix_on (H : Sh S S' k) {F F' : Nat} (hF : F ≤ F') {rec rec' : Nt → Nat → Nat → Out Pb} {d : Nat} (hr : ∀ nt n, Rel k (Pb.on k) (rec nt d n) (rec' nt d (n + k))) (n : Nat) : Rel k (Pb.on k) (infixO S F rec d n) (infixO S' F' rec' d (n + k)) := by
 unfold infixO
 refine rel_bind (call_on H hF hr n) (fun b m _ => ?_)
 exact rel_bind (infixL_on H hF hr F F' [] [b] m hF) (fun l m2 _ => rel_ok (by simp [oneOr_on, onI]) rfl)
theorem clause_on (H : Sh S S' k) {F F' : Nat} (hF : F ≤ F') {rec rec' : Nt → Nat → Nat → Out Pb} {d : Nat} (hr : ∀ nt n, Rel k (Pb.on k) (rec nt d n) (rec' nt d (n + k))) (a : Int) (fr n : Nat) : Rel k (Pb.on k) (clauseO S rec d a fr n) (clauseO S' rec' d a (fr + k) (n + k)) := by
 unfold clauseO
 refine rel_bind (hr .pat n) (fun p m _ => ?_)
 refine rel_bind (need_on H _ m) (fun u m2 _ => ?_)
 exact rel_bind (hr .exp m2) (fun e m3 _ => rel_ok (by simp [node_on, Nat.add_right_comm]) (by omega))
theorem exp_on (H : Sh S S' k) {F F' : Nat} (hF : F ≤ F') {rec rec' : Nt → Nat → Nat → Out Pb} {d : Nat} (hr : ∀ nt n, Rel k (Pb.on k) (rec nt d n) (rec' nt d (n + k))) (n : Nat) : Rel k (Pb.on k) (expO S F rec d n) (expO S' F' rec' d (n + k)) := by
 unfold expO
 refine rel_if (H.is n _) (fun _ => ?_) (fun _ => rel_if (H.is n _) (fun _ => ?_) (fun _ => rel_if (H.is n _) (fun _ => ?_) (fun _ => infix_on H hF hr n)))
 ·rw [Nat.add_right_comm]
  refine rel_bind (hr .exp (n + 1)) (fun a m _ => ?_)
  refine rel_bind (need_on H _ m) (fun u m2 _ => ?_)
  refine rel_bind (hr .exp m2) (fun b m3 _ => ?_)
  refine rel_bind (need_on H _ m3) (fun u m4 _ => ?_)
  exact rel_bind (hr .exp m4) (fun c m5 _ => rel_ok (by simp [node_on, Nat.add_right_comm]) (by omega))
 ·rw [Nat.add_right_comm]
  refine rel_bind (hr .exp (n + 1)) (fun a m _ => ?_)
  refine rel_bind (need_on H _ m) (fun u m2 _ => ?_)
  exact rel_bind (rowO_on H hF _ (fun n => clause_on H hF hr 33 n n) m2) (fun l m3 _ => rel_ok (by simp [node_on, Nat.add_right_comm]) (by omega))
 ·rw [Nat.add_right_comm]
  exact clause_on H hF hr 34 n (n + 1)
theorem varsL_on (H : Sh S S' k) : ∀ (f f' n : Nat), f ≤ f' → Rel k id (varsL S f n) (varsL S' f' (n + k)) := by
 intro f
 induction f with
 | zero => intro f' n _ h; exact absurd rfl h
 | succ f ih =>
  intro f' n hf
  obtain ⟨q, rfl⟩ : ∃ q, f' = q + 1 := ⟨f' - 1, by omega⟩
  unfold varsL
  refine rel_if (H.is n _) (fun _ => ?_) (fun _ => rel_ok rfl rfl)
  rw [Nat.add_right_comm]
  exact rel_bind (take_on H [8] (n + 1)) (fun x m _ => ih q m (by omega))
theorem typeName_on (H : Sh S S' k) {F F' : Nat} (hF : F ≤ F') (n : Nat) : Rel k (addN k) (typeNameO S F n) (typeNameO S' F' (n + k)) := by
 unfold typeNameO
 refine rel_if (by rw [H.kd]) (fun _ => ?_) (fun _ => rel_if (H.is n _) (fun _ => ?_) (fun _ => take_on H [6] n))
 ·rw [Nat.add_right_comm]; exact take_on H [6] (n + 1)
 ·rw [Nat.add_right_comm]
  refine rel_bind (take_on H [8] (n + 1)) (fun x m _ => ?_)
  refine rel_bind (varsL_on H F F' m hF) (fun u m2 _ => ?_)
  exact rel_bind (need_on H _ m2) (fun u m3 _ => take_on H [6] m3)
theorem con_on (H : Sh S S' k) {F F' : Nat} (hF : F ≤ F') {rec rec' : Nt → Nat → Nat → Out Pb} {d : Nat} (hr : ∀ nt n, Rel k (Pb.on k) (rec nt d n) (rec' nt d (n + k))) (n : Nat) : Rel k (Pb.on k) (conO S rec d n) (conO S' rec' d (n + k)) := by
 unfold conO
 refine rel_bind (take_on H [7] n) (fun x m _ => rel_if (H.is m _) (fun _ => ?_) (fun _ => rel_ok (by simp [node_on, Nat.add_right_comm]) (by omega)))
 rw [Nat.add_right_comm]
 exact rel_bind (hr .ty (m + 1)) (fun c m2 _ => rel_ok (by simp [node_on, Nat.add_right_comm]) (by omega))
theorem dbind_on (H : Sh S S' k) {F F' : Nat} (hF : F ≤ F') {rec rec' : Nt → Nat → Nat → Out Pb} {d : Nat} (hr : ∀ nt n, Rel k (Pb.on k) (rec nt d n) (rec' nt d (n + k))) (n : Nat) : Rel k (Pb.on k) (dbindO S F rec d n) (dbindO S' F' rec' d (n + k)) := by
 unfold dbindO
 refine rel_bind (typeName_on H hF n) (fun x m _ => ?_)
 refine rel_bind (need_on H _ m) (fun u m2 _ => ?_)
 exact rel_bind (rowO_on H hF _ (fun n => con_on H hF hr n) m2) (fun l m3 _ => rel_ok (by simp [node_on, Nat.add_right_comm]) (by omega))
theorem datatypes_on (H : Sh S S' k) {F F' : Nat} (hF : F ≤ F') {rec rec' : Nt → Nat → Nat → Out Pb} {d : Nat} (hr : ∀ nt n, Rel k (Pb.on k) (rec nt d n) (rec' nt d (n + k))) (fr n : Nat) : Rel k (Pb.on k) (datatypesO S F rec d fr n) (datatypesO S' F' rec' d (fr + k) (n + k)) := by
 unfold datatypesO
 exact rel_bind (rowO_on H hF _ (fun n => dbind_on H hF hr n) n) (fun l m3 _ => rel_ok (by simp [node_on, Nat.add_right_comm]) (by omega))
theorem spec_on (H : Sh S S' k) {F F' : Nat} (hF : F ≤ F') {rec rec' : Nt → Nat → Nat → Out Pb} {d : Nat} (hr : ∀ nt n, Rel k (Pb.on k) (rec nt d n) (rec' nt d (n + k))) (n : Nat) : Rel k (Pb.on k) (specO S F rec d n) (specO S' F' rec' d (n + k)) := by
 unfold specO
 refine rel_if (H.is n _) (fun _ => ?_) (fun _ => rel_if (H.is n _) (fun _ => ?_) (fun _ => rel_if (H.is n _) (fun _ => ?_) (fun _ => rel_if (H.is n _) (fun _ => ?_) (fun _ => ?_))))
 ·rw [Nat.add_right_comm]
  refine rel_bind (value_on H (n + 1)) (fun x m _ => ?_)
  refine rel_bind (need_on H _ m) (fun u m2 _ => ?_)
  exact rel_bind (hr .ty m2) (fun c m3 _ => rel_ok (by simp [node_on, Nat.add_right_comm]) (by omega))
 ·rw [Nat.add_right_comm]
  refine rel_bind (typeName_on H hF (n + 1)) (fun x m _ => rel_if (H.is m _) (fun _ => ?_) (fun _ => rel_ok (by simp [node_on, Nat.add_right_comm]) (by omega)))
  rw [Nat.add_right_comm]
  exact rel_bind (hr .ty (m + 1)) (fun c m2 _ => rel_ok (by simp [node_on, Nat.add_right_comm]) (by omega))
 ·rw [Nat.add_right_comm]; exact datatypes_on H hF hr n (n + 1)
 ·rw [Nat.add_right_comm]
  refine rel_bind (take_on H [7] (n + 1)) (fun x m _ => ?_)
  refine rel_bind (need_on H _ m) (fun u m2 _ => ?_)
  exact rel_bind (hr .sig m2) (fun c m3 _ => rel_ok (by simp [node_on, Nat.add_right_comm]) (by omega))
 ·refine rel_bind (need_on H _ n) (fun u m2 _ => ?_)
  exact rel_bind (hr .sig m2) (fun c m3 _ => rel_ok (by simp [node_on, Nat.add_right_comm]) (by omega))
theorem specsL_on (H : Sh S S' k) {F F' : Nat} (hF : F ≤ F') {rec rec' : Nt → Nat → Nat → Out Pb} {d : Nat} (hr : ∀ nt n, Rel k (Pb.on k) (rec nt d n) (rec' nt d (n + k))) : ∀ (f f' : Nat) (acc : List Pb) (n : Nat), f ≤ f' → Rel k (List.map (Pb.on k)) (specsL S F rec d f acc n) (specsL S' F' rec' d f' (acc.map (Pb.on k)) (n + k)) := by
 intro f
 induction f with
 | zero => intro f' acc n _ h; exact absurd rfl h
 | succ f ih =>
  intro f' acc n hf
  obtain ⟨q, rfl⟩ : ∃ q, f' = q + 1 := ⟨f' - 1, by omega⟩
  unfold specsL
  refine rel_if (H.is n _) (fun _ => rel_ok rfl (by omega)) (fun _ => rel_if (H.is n _) (fun _ => ?_) (fun _ => ?_))
  ·rw [Nat.add_right_comm]; exact ih q acc (n + 1) (by omega)
  ·refine rel_bind (spec_on H hF hr n) (fun b m _ => ?_)
   have := ih q (acc ++ [b]) m (by omega)
   simpa using this
theorem bareSig_on (H : Sh S S' k) {F F' : Nat} (hF : F ≤ F') {rec rec' : Nt → Nat → Nat → Out Pb} {d : Nat} (hr : ∀ nt n, Rel k (Pb.on k) (rec nt d n) (rec' nt d (n + k))) (n : Nat) : Rel k (Pb.on k) (bareSigO S F rec d n) (bareSigO S' F' rec' d (n + k)) := by
 unfold bareSigO
 refine rel_if (H.is n _) (fun _ => ?_) (fun _ => ?_)
 ·rw [Nat.add_right_comm]
  exact rel_bind (specsL_on H hF hr F F' [] (n + 1) hF) (fun l m _ => rel_ok (by simp [node_on, Nat.add_right_comm]) (by omega))
 ·exact rel_bind (take_on H [7] n) (fun x m _ => rel_ok (by simp [node_on, Nat.add_right_comm]) (by omega))
theorem whereL_on (H : Sh S S' k) {F F' : Nat} (hF : F ≤ F') {rec rec' : Nt → Nat → Nat → Out Pb} {d : Nat} (hr : ∀ nt n, Rel k (Pb.on k) (rec nt d n) (rec' nt d (n + k))) (fr : Nat) : ∀ (f f' : Nat) (b : Pb) (n : Nat), f ≤ f' → Rel k (Pb.on k) (whereL S rec d fr f b n) (whereL S' rec' d (fr + k) f' (b.on k) (n + k)) := by
 intro f
 induction f with
 | zero => intro f' b n _ h; exact absurd rfl h
 | succ f ih =>
  intro f' b n hf
  obtain ⟨q, rfl⟩ : ∃ q, f' = q + 1 := ⟨f' - 1, by omega⟩
  unfold whereL
  refine rel_if (H.is n _) (fun _ => ?_) (fun _ => rel_ok rfl rfl)
  rw [Nat.add_right_comm]
  refine rel_bind (need_on H _ (n + 1)) (fun u m _ => ?_)
  refine rel_bind (typePath_on H m) (fun p m2 _ => ?_)
  refine rel_bind (need_on H _ m2) (fun u m3 _ => ?_)
  refine rel_bind (hr .ty m3) (fun c m4 _ => ?_)
  have := ih q (node 21 fr m4 p [b, c]) m4 (by omega)
  rwa [node_on] at this
theorem sig_on (H : Sh S S' k) {F F' : Nat} (hF : F ≤ F') {rec rec' : Nt → Nat → Nat → Out Pb} {d : Nat} (hr : ∀ nt n, Rel k (Pb.on k) (rec nt d n) (rec' nt d (n + k))) (n : Nat) : Rel k (Pb.on k) (sigO S F rec d n) (sigO S' F' rec' d (n + k)) := by
 unfold sigO
 exact rel_bind (bareSig_on H hF hr n) (fun b m _ => whereL_on H hF hr n F F' b m hF)
theorem bareStr_on (H : Sh S S' k) {F F' : Nat} (hF : F ≤ F') {rec rec' : Nt → Nat → Nat → Out Pb} {d : Nat} (hr : ∀ nt n, Rel k (Pb.on k) (rec nt d n) (rec' nt d (n + k))) (n : Nat) : Rel k (Pb.on k) (bareStrO S F rec d n) (bareStrO S' F' rec' d (n + k)) := by
 unfold bareStrO
 refine rel_if (H.is n _) (fun _ => ?_) (fun _ => rel_if (by rw [H.kd, show n + k + 1 = n + 1 + k by omega, H.is]) (fun _ => ?_) (fun _ => ?_))
 ·rw [Nat.add_right_comm]
  refine rel_bind (decs_on H hF hr 1 (n + 1)) (fun l m _ => ?_)
  exact rel_bind (need_on H _ m) (fun u m2 _ => rel_ok (by simp [node_on, Nat.add_right_comm]) (by omega))
 ·rw [show n + k + 2 = n + 2 + k by omega]
  refine rel_bind (hr .str (n + 2)) (fun c m2 _ => ?_)
  exact rel_bind (need_on H _ m2) (fun u m3 _ => rel_ok (by simp [node_on, Nat.add_right_comm]) (by omega))
 ·exact rel_bind (path_on H [7] n) (fun p m _ => rel_ok (by simp [node_on, Nat.add_right_comm]) (by omega))
theorem sealL_on (H : Sh S S' k) {F F' : Nat} (hF : F ≤ F') {rec rec' : Nt → Nat → Nat → Out Pb} {d : Nat} (hr : ∀ nt n, Rel k (Pb.on k) (rec nt d n) (rec' nt d (n + k))) (fr : Nat) : ∀ (f f' : Nat) (b : Pb) (n : Nat), f ≤ f' → Rel k (Pb.on k) (sealL S rec d fr f b n) (sealL S' rec' d (fr + k) f' (b.on k) (n + k)) := by
 intro f
 induction f with
 | zero => intro f' b n _ h; exact absurd rfl h
 | succ f ih =>
  intro f' b n hf
  obtain ⟨q, rfl⟩ : ∃ q, f' = q + 1 := ⟨f' - 1, by omega⟩
  unfold sealL
  rw [H.colon]
  refine rel_if rfl (fun _ => rel_ok rfl rfl) (fun _ => ?_)
  rw [Nat.add_right_comm]
  refine rel_bind (hr .sig (n + 1)) (fun c m _ => ?_)
  have := ih q (marked ((S.colon n).1 : Int) (node 18 fr m [] [b, c])) m (by omega)
  rwa [marked_on, node_on] at this
theorem str_on (H : Sh S S' k) {F F' : Nat} (hF : F ≤ F') {rec rec' : Nt → Nat → Nat → Out Pb} {d : Nat} (hr : ∀ nt n, Rel k (Pb.on k) (rec nt d n) (rec' nt d (n + k))) (n : Nat) : Rel k (Pb.on k) (strO S F rec d n) (strO S' F' rec' d (n + k)) := by
 unfold strO
 exact rel_bind (bareStr_on H hF hr n) (fun b m _ => sealL_on H hF hr n F F' b m hF)
abbrev onB (k : Nat) : Nat × List Pb → Nat × List Pb := fun l => (l.1, l.2.map (Pb.on k))
theorem body_on (H : Sh S S' k) {F F' : Nat} (hF : F ≤ F') {rec rec' : Nt → Nat → Nat → Out Pb} {d : Nat} (hr : ∀ nt n, Rel k (Pb.on k) (rec nt d n) (rec' nt d (n + k))) (n : Nat) : Rel k (onB k) (bodyO S rec d n) (bodyO S' rec' d (n + k)) := by
 unfold bodyO
 rw [H.colon]
 refine rel_bind (g := List.map (Pb.on k)) (rel_if rfl (fun _ => rel_ok rfl rfl) (fun _ => ?_)) (fun l m _ => ?_)
 ·rw [Nat.add_right_comm]
  exact rel_bind (hr .sig (n + 1)) (fun c m _ => rel_ok rfl rfl)
 ·refine rel_bind (need_on H _ m) (fun u m2 _ => ?_)
  exact rel_bind (hr .str m2) (fun c m3 _ => rel_ok (by simp [onB]) rfl)
theorem structure_on (H : Sh S S' k) {F F' : Nat} (hF : F ≤ F') {rec rec' : Nt → Nat → Nat → Out Pb} {d : Nat} (hr : ∀ nt n, Rel k (Pb.on k) (rec nt d n) (rec' nt d (n + k))) (fr n : Nat) : Rel k (Pb.on k) (structureO S rec d fr n) (structureO S' rec' d (fr + k) (n + k)) := by
 unfold structureO
 refine rel_bind (take_on H [7] n) (fun x m _ => ?_)
 exact rel_bind (body_on H hF hr m) (fun l m2 _ => rel_ok (by simp [node_on, marked_on, onB]) rfl)
theorem functor_on (H : Sh S S' k) {F F' : Nat} (hF : F ≤ F') {rec rec' : Nt → Nat → Nat → Out Pb} {d : Nat} (hr : ∀ nt n, Rel k (Pb.on k) (rec nt d n) (rec' nt d (n + k))) (fr n : Nat) : Rel k (Pb.on k) (functorO S rec d fr n) (functorO S' rec' d (fr + k) (n + k)) := by
 unfold functorO
 refine rel_bind (take_on H [7] n) (fun x m _ => ?_)
 refine rel_bind (need_on H _ m) (fun u m2 _ => ?_)
 refine rel_bind (take_on H [7] m2) (fun y m3 _ => ?_)
 refine rel_bind (need_on H _ m3) (fun u m4 _ => ?_)
 refine rel_bind (hr .sig m4) (fun c m5 _ => ?_)
 refine rel_bind (need_on H _ m5) (fun u m6 _ => ?_)
 exact rel_bind (body_on H hF hr m6) (fun l m7 _ => rel_ok (by simp [node_on, marked_on, onB]) rfl)
theorem funL_on (H : Sh S S' k) {F F' : Nat} (hF : F ≤ F') {rec rec' : Nt → Nat → Nat → Out Pb} {d : Nat} (hr : ∀ nt n, Rel k (Pb.on k) (rec nt d n) (rec' nt d (n + k))) : ∀ (f f' : Nat) (acc : List Pb) (n : Nat), f ≤ f' → Rel k (List.map (Pb.on k)) (funL S F rec d f acc n) (funL S' F' rec' d f' (acc.map (Pb.on k)) (n + k)) := by
 intro f
 induction f with
 | zero => intro f' acc n _ h; exact absurd rfl h
 | succ f ih =>
  intro f' acc n hf
  obtain ⟨q, rfl⟩ : ∃ q, f' = q + 1 := ⟨f' - 1, by omega⟩
  unfold funL
  refine rel_if (H.begins _ n) (fun _ => ?_) (fun _ => rel_ok rfl rfl)
  ·refine rel_bind (atomicPat_on H hF hr n) (fun b m _ => ?_)
   have := ih q (acc ++ [b]) m (by omega)
   simpa using this
theorem function_on (H : Sh S S' k) {F F' : Nat} (hF : F ≤ F') {rec rec' : Nt → Nat → Nat → Out Pb} {d : Nat} (hr : ∀ nt n, Rel k (Pb.on k) (rec nt d n) (rec' nt d (n + k))) (n : Nat) : Rel k (Pb.on k) (functionO S F rec d n) (functionO S' F' rec' d (n + k)) := by
 unfold functionO
 refine rel_bind (value_on H n) (fun x m _ => ?_)
 refine rel_bind (atomicPat_on H hF hr m) (fun b m2 _ => ?_)
 refine rel_bind (funL_on H hF hr F F' [b] m2 hF) (fun l m3 _ => ?_)
 refine rel_bind (need_on H _ m3) (fun u m4 _ => ?_)
 exact rel_bind (hr .exp m4) (fun c m5 _ => rel_ok (by simp [node_on, Nat.add_right_comm]) (by omega))
theorem local_on (H : Sh S S' k) {F F' : Nat} (hF : F ≤ F') {rec rec' : Nt → Nat → Nat → Out Pb} {d : Nat} (hr : ∀ nt n, Rel k (Pb.on k) (rec nt d n) (rec' nt d (n + k))) (fr a n : Nat) : Rel k (Pb.on k) (localO S F rec d fr a n) (localO S' F' rec' d (fr + k) a (n + k)) := by
 unfold localO
 refine rel_bind (within_on H hF hr a n) (fun x m _ => ?_)
 refine rel_bind (need_on H _ m) (fun u m2 _ => ?_)
 refine rel_bind (within_on H hF hr a m2) (fun x m3 _ => ?_)
 exact rel_bind (need_on H _ m3) (fun u m4 _ => rel_ok (by simp [node_on, Nat.add_right_comm]) (by omega))
theorem dec_on (H : Sh S S' k) {F F' : Nat} (hF : F ≤ F') {rec rec' : Nt → Nat → Nat → Out Pb} {d : Nat} (hr : ∀ nt n, Rel k (Pb.on k) (rec nt d n) (rec' nt d (n + k))) (a n : Nat) : Rel k (Pb.on k) (decO S F rec d a n) (decO S' F' rec' d a (n + k)) := by
 unfold decO
 rw [Nat.add_right_comm]
 refine rel_if (H.is n _) (fun _ => ?_) (fun _ => rel_if (H.is n _) (fun _ => ?_) (fun _ => rel_if (H.is n _) (fun _ => ?_) (fun _ => rel_if (H.is n _) (fun _ => ?_) (fun _ => rel_if (H.is n _) (fun _ => ?_) (fun _ => rel_if (H.is n _) (fun _ => ?_) (fun _ => rel_if (H.is n _) (fun _ => ?_) (fun _ => rel_if (H.is n _) (fun _ => ?_) (fun _ => ?_))))))))
 ·refine rel_bind (hr .pat (n + 1)) (fun p m _ => ?_)
  refine rel_bind (need_on H _ m) (fun u m2 _ => ?_)
  exact rel_bind (hr .exp m2) (fun c m3 _ => rel_ok (by simp [node_on, Nat.add_right_comm]) (by omega))
 ·exact rel_bind (rowO_on H hF _ (fun n => function_on H hF hr n) (n + 1)) (fun l m _ => rel_ok (by simp [node_on, Nat.add_right_comm]) (by omega))
 ·refine rel_bind (typeName_on H hF (n + 1)) (fun x m _ => ?_)
  refine rel_bind (need_on H _ m) (fun u m2 _ => ?_)
  exact rel_bind (hr .ty m2) (fun c m3 _ => rel_ok (by simp [node_on, Nat.add_right_comm]) (by omega))
 ·exact datatypes_on H hF hr n (n + 1)
 ·exact structure_on H hF hr n (n + 1)
 ·refine rel_bind (take_on H [7] (n + 1)) (fun x m _ => ?_)
  refine rel_bind (need_on H _ m) (fun u m2 _ => ?_)
  exact rel_bind (hr .sig m2) (fun c m3 _ => rel_ok (by simp [node_on, Nat.add_right_comm]) (by omega))
 ·exact functor_on H hF hr n (n + 1)
 ·exact rel_bind (path_on H [7] (n + 1)) (fun p m _ => rel_ok (by simp [node_on, Nat.add_right_comm]) (by omega))
 ·exact local_on H hF hr n a (n + 1)
theorem parts_on (H : Sh S S' k) : ∀ (f f' : Nat), f ≤ f' → ∀ nt d n, Rel k (Pb.on k) (parts S f nt d n) (parts S' f' nt d (n + k)) := by
 intro f
 induction f with
 | zero => intro f' _ nt d n h; exact absurd rfl h
 | succ f ih =>
  intro f' hf nt d n
  obtain ⟨q, rfl⟩ : ∃ q, f' = q + 1 := ⟨f' - 1, by omega⟩
  unfold parts
  refine rel_if rfl (fun _ => fun _ => rfl) (fun _ => ?_)
  have hq : f ≤ q := by omega
  have hr := fun nt n => ih q hq nt (d + 1) n
  cases nt with
  | exp => exact exp_on H hq hr n
  | pat => exact pat_on H hq hr n
  | ty => exact ty_on H hq hr n
  | sig => exact sig_on H hq hr n
  | str => exact str_on H hq hr n
  | dec a => exact dec_on H hq hr a n
end
end Go.Proofs.YtifoodfbgghplaaGreatDoor

namespace Go.Proofs.YtifoodfbgghplaaGreatDoor
open Go.RowKit
set_option maxRecDepth 20000
set_option linter.unusedVariables false
set_option linter.unusedSimpArgs false

/-- Tokens from the place a on, each where the one ahead ends, up to the end at n. -/
def Chain (n : Nat) : Nat → List Tok → Prop
 | _, [] => False
 | a, t :: r => (r = [] ∧ t = ⟨0, n, n⟩ ∧ a = n) ∨ (t.k ≠ 0 ∧ t.a = a ∧ a < t.e ∧ t.e ≤ n ∧ Chain n t.e r)
theorem restT_chain (s : ByteArray) (a : Nat) (ha : a ≤ s.size) : Chain s.size a (restT s a) := by
 obtain ⟨m, hm⟩ : ∃ m, m = s.size - a := ⟨_, rfl⟩
 induction m using Nat.strongRecOn generalizing a with
 | _ m ih =>
  by_cases h : a < s.size
  ·have hb := tokAt_bound s a h
   rw [restT_at s a h]
   refine .inr ⟨?_, ?_, hb.1, hb.2, ih (s.size - (tokAt s a).e) (by omega) _ hb.2 rfl⟩
   ·rw [tokAt_in s a h]; exact tokN_kind _ (by rw [drop_at s a h]; simp)
   ·rw [tokAt_in s a h]
  ·have : a = s.size := by omega
   subst this
   rw [restT_end, tokAt_end]
   exact .inl ⟨rfl, rfl, rfl⟩
/-- Where token i begins; n behind the last. -/
def posT (n : Nat) (l : List Tok) (i : Nat) : Nat := match l[i]? with
 | some t => t.a
 | none => n
theorem Chain.length {n a : Nat} {l : List Tok} (h : Chain n a l) : 0 < l.length ∧ l.length ≤ n - a + 1 ∧ a ≤ n := by
 induction l generalizing a with
 | nil => exact h.elim
 | cons t r ih =>
  rcases h with ⟨h1, _, h2⟩ | ⟨_, _, h3, h4, h5⟩
  ·subst h1; simp; omega
  ·have := ih h5; simp; omega
theorem Chain.pos0 {n a : Nat} {l : List Tok} (h : Chain n a l) : posT n l 0 = a := by
 cases l with
 | nil => exact h.elim
 | cons t r =>
  rcases h with ⟨_, h1, h2⟩ | ⟨_, h1, _⟩
  ·subst h1; simp [posT, h2]
  ·simpa [posT] using h1
theorem posT_end (n : Nat) (l : List Tok) : posT n l l.length = n := by simp [posT]
theorem posT_in (n : Nat) (l : List Tok) (i : Nat) (h : i < l.length) : posT n l i = l[i].a := by simp [posT, h]
theorem posT_cons (n : Nat) (t : Tok) (r : List Tok) (i : Nat) : posT n (t :: r) (i + 1) = posT n r i := by simp [posT]
theorem Chain.at {n a : Nat} {l : List Tok} (h : Chain n a l) (i : Nat) (hi : i < l.length) :
  l[i].a = posT n l i ∧ l[i].e = posT n l (i + 1) ∧ l[i].e ≤ n ∧ ((i + 1 = l.length ∧ l[i].k = 0 ∧ l[i].e = l[i].a) ∨ (i + 1 < l.length ∧ l[i].k ≠ 0 ∧ l[i].a < l[i].e)) := by
 refine ⟨(posT_in n l i hi).symm, ?_⟩
 induction l generalizing a i with
 | nil => exact h.elim
 | cons t r ih =>
  rcases h with ⟨h1, h2, h3⟩ | ⟨h1, h2, h3, h4, h5⟩
  ·subst h1
   have : i = 0 := by simp at hi; omega
   subst this
   subst h2
   simp [posT]
  ·cases i with
   | zero =>
    have hl := h5.length
    simp only [posT_cons, h5.pos0, List.getElem_cons_zero, List.length_cons]
    exact ⟨by first | trivial | rfl, h4, .inr ⟨by omega, h1, by omega⟩⟩
   | succ i =>
    have := ih h5 i (by simpa using hi)
    simp only [posT_cons, List.getElem_cons_succ, List.length_cons]
    refine ⟨this.1, this.2.1, ?_⟩
    rcases this.2.2 with ⟨e, f⟩ | ⟨e, f⟩
    ·exact .inl ⟨by omega, f⟩
    ·exact .inr ⟨by omega, f⟩
theorem scan_chain (s : ByteArray) : Chain s.size 0 (scanT s) := restT_chain s 0 (by omega)
end Go.Proofs.YtifoodfbgghplaaGreatDoor

namespace Go.Proofs.YtifoodfbgghplaaGreatDoor
open Go.RowKit
set_option maxRecDepth 20000
set_option linter.unusedVariables false
set_option linter.unusedSimpArgs false

theorem passN_take {σ : Type} (f : σ → UInt8 → σ × Bool) (q : σ) (l : List UInt8) (m : Nat) : passN f q (l.take m) = min m (passN f q l) := by
 induction l generalizing q m with
 | nil => simp [passN]
 | cons c r ih =>
  cases m with
  | zero => simp [passN]
  | succ m =>
   simp only [List.take_succ_cons, passN]
   cases (f q c).2
   ·simp
   ·simp only [cond_true, ih]; omega
theorem headB_take {l : List UInt8} {j : Nat} {x : Int} (h : headB l x = false) : headB (l.take j) x = false := by
 cases l with
 | nil => simp [headB]
 | cons c r => cases j with
  | zero => rfl
  | succ j => exact h
theorem headB_take_pos (l : List UInt8) (j : Nat) (x : Int) (h : 0 < j) : headB (l.take j) x = headB l x := by
 cases l with
 | nil => simp [headB]
 | cons c r => cases j with
  | zero => omega
  | succ j => rfl
theorem drop_take_self (l : List UInt8) (n q : Nat) : (l.take (n + q)).drop n = (l.drop n).take q := by
 rw [List.drop_take]; congr 1; omega
theorem quote_again (r : List UInt8) : quoteN (r.take ((quoteN r).2 - 1)) = quoteN r := by
 have hle := passN_le qF false r
 unfold quoteN
 simp only
 cases h : headB (r.drop (passN qF false r)) 34
 ·simp only [cond_false]
  have hm : passN qF false r + 1 + passN (pureF lineB) () (r.drop (passN qF false r)) - 1 = passN qF false r + passN (pureF lineB) () (r.drop (passN qF false r)) := by omega
  rw [hm, passN_take, Nat.min_eq_right (by omega), drop_take_self, headB_take h, passN_take, Nat.min_self]
  rfl
 ·simp only [cond_true]
  have hm : passN qF false r + 2 - 1 = passN qF false r + 1 := by omega
  rw [hm, passN_take, Nat.min_eq_right (by omega), drop_take_self, headB_take_pos _ _ _ (by omega), h]
  rfl
theorem note_again (l : List UInt8) (h : 0 < l.length) : noteN (l.take (noteN l).2) = noteN l := by
 have hle := passN_le nF (0, 0) l
 unfold noteN
 simp only
 cases e : (passN nF (0, 0) l == l.length)
 ·simp only [cond_false]
  have hne : ¬ passN nF (0, 0) l = l.length := by simpa using e
  rw [passN_take, Nat.min_eq_right (by omega), List.length_take, Nat.min_eq_left (by omega)]
  have : (passN nF (0, 0) l == passN nF (0, 0) l + 1) = false := by simp
  rw [this]
  rfl
 ·simp only [cond_true]
  have hq : passN nF (0, 0) l = l.length := by simpa using e
  rw [hq, List.take_length, hq]
  simp
theorem note_two (r : List UInt8) : 2 ≤ passN nF (0, 0) (40 :: 42 :: r) := by
 have h1 : nF (0, 0) 40 = ((0, 40), true) := by decide
 have h2 : nF (0, 40) 42 = ((1, 0), true) := by decide
 simp only [passN, h1, h2, cond_true]
 omega
theorem eqB_eq {c : UInt8} {n : UInt8} (h : eqB c (n.toNat : Int) = true) : c = n := by
 unfold eqB at h
 rw [u8_eq]
 simpa using h
/-- The token of a token's own bytes. -/
theorem tok_again (l : List UInt8) (h : l ≠ []) : tokN (l.take (tokN l).2) = tokN l := by
 cases l with
 | nil => exact absurd rfl h
 | cons c r =>
  have hb := tokN_bound (c :: r) (by simp)
  obtain ⟨m, hm⟩ : ∃ m, (tokN (c :: r)).2 = m + 1 := ⟨(tokN (c :: r)).2 - 1, by omega⟩
  have key : tokN ((c :: r).take (m + 1)) = bif blankB c then (1, passN (pureF blankB) () ((c :: r).take (m + 1)))
    else bif eqB c 34 then quoteN (r.take m)
    else bif eqB c 40 && headB (r.take m) 42 then noteN ((c :: r).take (m + 1))
    else bif restB c then (plainN (((c :: r).take (m + 1)).take (passN (pureF restB) () ((c :: r).take (m + 1)))), passN (pureF restB) () ((c :: r).take (m + 1)))
    else bif signB c then (plainN (((c :: r).take (m + 1)).take (passN (pureF signB) () ((c :: r).take (m + 1)))), passN (pureF signB) () ((c :: r).take (m + 1)))
    else (plainN (((c :: r).take (m + 1)).take 1), 1) := rfl
  have own : tokN (c :: r) = bif blankB c then (1, passN (pureF blankB) () (c :: r))
    else bif eqB c 34 then quoteN r
    else bif eqB c 40 && headB r 42 then noteN (c :: r)
    else bif restB c then (plainN ((c :: r).take (passN (pureF restB) () (c :: r))), passN (pureF restB) () (c :: r))
    else bif signB c then (plainN ((c :: r).take (passN (pureF signB) () (c :: r))), passN (pureF signB) () (c :: r))
    else (plainN ((c :: r).take 1), 1) := rfl
  rw [hm, key]
  rw [own] at hm ⊢
  clear key own hb h
  cases h1 : blankB c
  ·cases h2 : eqB c 34
   ·cases h3 : (eqB c 40 && headB r 42)
    ·have h3' : (eqB c 40 && headB (r.take m) 42) = false := by
      cases h4 : eqB c 40
      ·rfl
      ·rw [h4, Bool.true_and] at h3; rw [headB_take h3]; rfl
     cases h4 : restB c
     ·cases h5 : signB c
      ·simp only [h1, h2, h3, h4, h5, cond_false] at hm
       have : m = 0 := by omega
       subst this
       simp only [h3', cond_false]
       rfl
      ·simp only [h1, h2, h3, h4, h5, cond_false, cond_true] at hm
       simp only [h3', cond_false, cond_true]
       rw [passN_take, hm, Nat.min_self, List.take_take, Nat.min_self]
     ·simp only [h1, h2, h3, h4, cond_false, cond_true] at hm
      simp only [h3', cond_false, cond_true]
      rw [passN_take, hm, Nat.min_self, List.take_take, Nat.min_self]
    ·simp only [h1, h2, h3, cond_false, cond_true] at hm
     rw [Bool.and_eq_true] at h3
     have hc : c = 40 := eqB_eq (n := 40) h3.1
     cases r with
     | nil => exact absurd h3.2 (by simp [headB])
     | cons d t =>
      have hd : d = 42 := eqB_eq (n := 42) h3.2
      subst hc hd
      have h2 := note_two t
      have hm1 : 1 ≤ m := by
       unfold noteN at hm
       simp only at hm
       cases e : (passN nF (0, 0) (40 :: 42 :: t) == (40 :: 42 :: t).length) <;> rw [e] at hm <;> simp at hm <;> omega
      rw [headB_take_pos _ _ _ hm1, h3.1, h3.2]
      simp only [Bool.and_self, cond_true, cond_false]
      have := note_again (40 :: 42 :: t) (by simp)
      rw [hm] at this
      exact this
   ·simp only [h1, h2, cond_false, cond_true] at hm
    simp only [cond_false, cond_true]
    have := quote_again r
    rw [hm] at this
    exact this
  ·simp only [h1, cond_true] at hm
   simp only [cond_true]
   rw [passN_take, hm, Nat.min_self]
theorem scan_again (s : ByteArray) (a : Nat) (h : a < s.size) : scanT (s.extract (tokAt s a).a (tokAt s a).e) = [⟨(tokAt s a).k, 0, (tokAt s a).e - (tokAt s a).a⟩, ⟨0, (tokAt s a).e - (tokAt s a).a, (tokAt s a).e - (tokAt s a).a⟩] := by
 have hbo := tokAt_bound s a h
 have hne : s.data.toList.drop a ≠ [] := by rw [drop_at s a h]; simp
 have hta := tok_again (s.data.toList.drop a) hne
 rw [tokAt_in s a h] at hbo ⊢
 simp only at hbo ⊢
 generalize hT : tokN (s.data.toList.drop a) = T at *
 obtain ⟨k, n⟩ := T
 simp only at *
 rw [show a + n - a = n from by omega]
 have hd : (s.extract a (a + n)).data.toList = (s.data.toList.drop a).take n := extract_drop s a n
 have hsz : (s.extract a (a + n)).size = n := by simp; omega
 generalize s.extract a (a + n) = p at *
 have hp : 0 < p.size := by omega
 have e0 : tokAt p 0 = ⟨k, 0, n⟩ := by
  rw [tokAt_in p 0 hp, List.drop_zero, hd, hta, Nat.zero_add]
 unfold scanT
 rw [restT_at p 0 hp, e0]
 simp only
 rw [← hsz, restT_end, tokAt_end]
theorem restT_mem (s : ByteArray) (a : Nat) (ha : a ≤ s.size) : ∀ t ∈ restT s a, t.a ≤ s.size ∧ t = tokAt s t.a := by
 obtain ⟨m, hm⟩ : ∃ m, m = s.size - a := ⟨_, rfl⟩
 induction m using Nat.strongRecOn generalizing a with
 | _ m ih =>
  intro t ht
  by_cases h : a < s.size
  ·have hb := tokAt_bound s a h
   rw [restT_at s a h] at ht
   rcases List.mem_cons.1 ht with rfl | ht
   ·rw [show (tokAt s a).a = a by rw [tokAt_in s a h]]
    exact ⟨ha, rfl⟩
   ·exact ih (s.size - (tokAt s a).e) (by omega) _ hb.2 rfl t ht
  ·have : a = s.size := by omega
   subst this
   rw [restT_end] at ht
   have : t = tokAt s s.size := by simpa using ht
   subst this
   rw [tokAt_end]
   exact ⟨Nat.le_refl _, (tokAt_end s).symm⟩
theorem again_at (s : ByteArray) (t : Tok) (ht : t ∈ scanT s) (hk : t.k ≠ 0) : t.a < t.e ∧ t.e ≤ s.size ∧ scanT (s.extract t.a t.e) = [⟨t.k, 0, t.e - t.a⟩, ⟨0, t.e - t.a, t.e - t.a⟩] := by
 obtain ⟨h1, h2⟩ := restT_mem s 0 (by omega) t ht
 have hlt : t.a < s.size := by
  apply Decidable.byContradiction
  intro hn
  have : t.a = s.size := by omega
  rw [this, tokAt_end] at h2
  rw [h2] at hk
  exact hk rfl
 have hb := tokAt_bound s t.a hlt
 have := scan_again s t.a hlt
 rw [← h2] at this hb
 exact ⟨hb.1, hb.2, this⟩
end Go.Proofs.YtifoodfbgghplaaGreatDoor

namespace Go.Proofs.YtifoodfbgghplaaGreatDoor
open Go.RowKit
set_option maxRecDepth 20000
set_option linter.unusedVariables false
set_option linter.unusedSimpArgs false

theorem passN_more {σ : Type} (f : σ → UInt8 → σ × Bool) (q : σ) (l x : List UInt8) (h : passN f q l < l.length) : passN f q (l ++ x) = passN f q l := by
 induction l generalizing q with
 | nil => simp at h
 | cons c r ih =>
  simp only [List.cons_append, passN] at h ⊢
  cases hb : (f q c).2
  ·rfl
  ·rw [hb] at h
   simp only [cond_true, List.length_cons] at h ⊢
   rw [ih _ (by omega)]
theorem passN_pure_app (g : UInt8 → Bool) (l x : List UInt8) (h : passN (pureF g) () l = l.length) : passN (pureF g) () (l ++ x) = l.length + passN (pureF g) () x := by
 induction l with
 | nil => simp
 | cons c r ih =>
  simp only [List.cons_append, passN, pureF] at h ⊢
  cases hb : g c
  ·rw [hb] at h; simp at h
  ·rw [hb] at h
   simp only [cond_true, List.length_cons] at h ⊢
   rw [ih (by omega)]; omega
theorem passN_stop (g : UInt8 → Bool) (l : List UInt8) (T : List UInt8) (h : g 10 = false) : passN (pureF g) () (l ++ 10 :: T) = passN (pureF g) () l := by
 by_cases hlt : passN (pureF g) () l < l.length
 ·exact passN_more _ _ _ _ hlt
 ·have := passN_le (pureF g) () l
  have e : passN (pureF g) () l = l.length := by omega
  rw [passN_pure_app g l _ e, e]
  simp [passN, pureF, h]
theorem headB_app (r T : List UInt8) (x : Int) (h : headB r x = false) (hx : eqB 10 x = false) : headB (r ++ 10 :: T) x = false := by
 cases r with
 | nil => exact hx
 | cons c r => exact h
theorem headB_keep (r x : List UInt8) (n : Int) (h : headB r n = true) : headB (r ++ x) n = true := by
 cases r with
 | nil => simp [headB] at h
 | cons c r => exact h
theorem headB_len (r : List UInt8) (n : Int) (h : headB r n = true) : 0 < r.length := by
 cases r with
 | nil => simp [headB] at h
 | cons c r => simp
theorem take_app_le (l x : List UInt8) (n : Nat) (h : n ≤ l.length) : (l ++ x).take n = l.take n := List.take_append_of_le_length h
/-- A token that is not bad, and is no blank at the end, is the same with a line end behind it. -/
theorem tok_parted (R T : List UInt8) (hR : R ≠ []) (hk : (tokN R).1 ≠ 3) (hb : ¬ ((tokN R).1 = 1 ∧ (tokN R).2 = R.length)) : tokN (R ++ 10 :: T) = tokN R := by
 cases R with
 | nil => exact absurd rfl hR
 | cons c r =>
  have key : tokN ((c :: r) ++ 10 :: T) = bif blankB c then (1, passN (pureF blankB) () ((c :: r) ++ 10 :: T))
    else bif eqB c 34 then quoteN (r ++ 10 :: T)
    else bif eqB c 40 && headB (r ++ 10 :: T) 42 then noteN ((c :: r) ++ 10 :: T)
    else bif restB c then (plainN (((c :: r) ++ 10 :: T).take (passN (pureF restB) () ((c :: r) ++ 10 :: T))), passN (pureF restB) () ((c :: r) ++ 10 :: T))
    else bif signB c then (plainN (((c :: r) ++ 10 :: T).take (passN (pureF signB) () ((c :: r) ++ 10 :: T))), passN (pureF signB) () ((c :: r) ++ 10 :: T))
    else (plainN (((c :: r) ++ 10 :: T).take 1), 1) := rfl
  have own : tokN (c :: r) = bif blankB c then (1, passN (pureF blankB) () (c :: r))
    else bif eqB c 34 then quoteN r
    else bif eqB c 40 && headB r 42 then noteN (c :: r)
    else bif restB c then (plainN ((c :: r).take (passN (pureF restB) () (c :: r))), passN (pureF restB) () (c :: r))
    else bif signB c then (plainN ((c :: r).take (passN (pureF signB) () (c :: r))), passN (pureF signB) () (c :: r))
    else (plainN ((c :: r).take 1), 1) := rfl
  rw [key]
  rw [own] at hk hb ⊢
  clear key own hR
  rw [passN_stop restB (c :: r) T (by decide), passN_stop signB (c :: r) T (by decide), take_app_le _ _ _ (passN_le _ _ _), take_app_le _ _ _ (passN_le _ _ _), take_app_le _ _ 1 (by simp)]
  cases h1 : blankB c
  ·cases h2 : eqB c 34
   ·cases h3 : (eqB c 40 && headB r 42)
    ·have h3' : (eqB c 40 && headB (r ++ 10 :: T) 42) = false := by
      cases h4 : eqB c 40
      ·rfl
      ·rw [h4, Bool.true_and] at h3; rw [headB_app _ _ _ h3 (by decide)]; rfl
     rw [h3']
     simp only [cond_false]
    ·have h3' : (eqB c 40 && headB (r ++ 10 :: T) 42) = true := by
      rw [Bool.and_eq_true] at h3 ⊢
      exact ⟨h3.1, headB_keep _ _ _ h3.2⟩
     rw [h3']
     simp only [h1, h2, h3, cond_false, cond_true] at hk hb ⊢
     unfold noteN at hk ⊢
     simp only at hk ⊢
     cases e : (passN nF (0, 0) (c :: r) == (c :: r).length)
     ·have hne : ¬ passN nF (0, 0) (c :: r) = (c :: r).length := by simpa using e
      have hle := passN_le nF (0, 0) (c :: r)
      have hm := passN_more nF (0, 0) (c :: r) (10 :: T) (by omega)
      rw [hm]
      have : (passN nF (0, 0) (c :: r) == (c :: r ++ 10 :: T).length) = false := by
       rw [beq_eq_false_iff_ne, List.length_append]; omega
      rw [this]
     ·rw [e] at hk; exact absurd rfl hk
   ·simp only [h1, h2, cond_false, cond_true] at hk hb ⊢
    unfold quoteN at hk ⊢
    simp only at hk ⊢
    cases e : headB (r.drop (passN qF false r)) 34
    ·rw [e] at hk; exact absurd rfl hk
    ·have hl := headB_len _ _ e
     rw [List.length_drop] at hl
     rw [passN_more qF false r (10 :: T) (by omega), List.drop_append_of_le_length (by omega), headB_keep _ _ _ e]
     rfl
  ·simp only [h1, cond_true] at hk hb ⊢
   have hle := passN_le (pureF blankB) () (c :: r)
   rw [passN_more (pureF blankB) () (c :: r) (10 :: T) (by
    apply Nat.lt_of_le_of_ne hle
    intro h
    exact hb ⟨trivial, h⟩)]
/-- A blank up to the end takes the line end in, and all blanks behind it. -/
theorem tok_blank (R T : List UInt8) (hR : R ≠ []) (h1 : (tokN R).1 = 1) (h2 : (tokN R).2 = R.length) : tokN (R ++ 10 :: T) = (1, R.length + 1 + passN (pureF blankB) () T) := by
 cases R with
 | nil => exact absurd rfl hR
 | cons c r =>
  have hbk : blankB c = true ∧ passN (pureF blankB) () (c :: r) = (c :: r).length := by
   cases hb : blankB c
   ·exfalso
    unfold tokN at h1
    simp only [hb, cond_false] at h1
    cases h2 : eqB c 34
    ·cases h3 : (eqB c 40 && headB r 42)
     ·simp only [h2, h3, cond_false] at h1
      have hp : ∀ p, plainN p ≠ 1 := by
       intro p
       unfold plainN
       cases p with
       | nil => decide
       | cons a t =>
        simp only
        cases digB a
        ·cases hz : (kindN (bsOf (a :: t)) == 0)
         ·simp only [cond_false]
          unfold kindN
          rcases beg_cases (bsOf (a :: t)) with h | h | h | h | h <;> rw [h] <;> cases mkB (bsOf (a :: t)) <;> cases allS (bsOf (a :: t)) <;> cases allR (bsOf (a :: t)) <;> cases kwB (bsOf (a :: t)) <;> decide
         ·simp
        ·cases passN (pureF digB) () (a :: t) == (a :: t).length <;> simp
      cases h4 : restB c
      ·cases h5 : signB c
       ·simp only [h4, h5, cond_false] at h1; exact hp _ h1
       ·simp only [h4, h5, cond_false, cond_true] at h1; exact hp _ h1
      ·simp only [h4, cond_true] at h1; exact hp _ h1
     ·simp only [h2, h3, cond_false, cond_true] at h1
      unfold noteN at h1
      simp only at h1
      cases e : (passN nF (0, 0) (c :: r) == (c :: r).length) <;> rw [e] at h1 <;> simp at h1
    ·simp only [h2, cond_true] at h1
     unfold quoteN at h1
     simp only at h1
     cases e : headB (r.drop (passN qF false r)) 34 <;> rw [e] at h1 <;> simp at h1
   ·refine ⟨rfl, ?_⟩
    unfold tokN at h2
    simp only [hb, cond_true] at h2
    exact h2
  have key : tokN ((c :: r) ++ 10 :: T) = bif blankB c then (1, passN (pureF blankB) () ((c :: r) ++ 10 :: T)) else _ := rfl
  rw [key, hbk.1]
  simp only [cond_true]
  rw [passN_pure_app blankB _ _ hbk.2]
  have : passN (pureF blankB) () (10 :: T) = passN (pureF blankB) () T + 1 := rfl
  rw [this]
  congr 1
  omega
theorem tok_line (T : List UInt8) : tokN (10 :: T) = (1, passN (pureF blankB) () T + 1) := rfl

/-- The tokens that say something, from a place on, but the end. -/
def saysF (a : Nat) (l : List UInt8) : List Tok := pickT saysB (scanF l.length a l)
theorem saysF_nil (a : Nat) : saysF a [] = [] := rfl
theorem saysF_at (a : Nat) (l : List UInt8) (h : l ≠ []) : saysF a l = pickT saysB [⟨(tokN l).1, a, a + (tokN l).2⟩] ++ saysF (a + (tokN l).2) (l.drop (tokN l).2) := by
 have hb := tokN_bound l h
 unfold saysF
 obtain ⟨m, hm⟩ : ∃ m, l.length = m + 1 := ⟨l.length - 1, by omega⟩
 rw [hm]
 have he : l.isEmpty = false := by cases l <;> simp_all
 simp only [scanF, he, cond_false]
 rw [show (⟨(tokN l).1, a, a + (tokN l).2⟩ : Tok) :: scanF m (a + (tokN l).2) (l.drop (tokN l).2) = [⟨(tokN l).1, a, a + (tokN l).2⟩] ++ scanF m (a + (tokN l).2) (l.drop (tokN l).2) from rfl, pickT_append]
 rw [scanF_fuel m (l.drop (tokN l).2).length _ _ (by rw [List.length_drop]; omega) (Nat.le_refl _)]
theorem saysF_blanks (b : Nat) (T : List UInt8) : saysF (b + passN (pureF blankB) () T) (T.drop (passN (pureF blankB) () T)) = saysF b T := by
 cases T with
 | nil => rfl
 | cons c r =>
  cases hb : blankB c
  ·have : passN (pureF blankB) () (c :: r) = 0 := by simp [passN, pureF, hb]
   rw [this]; rfl
  ·have ht : tokN (c :: r) = (1, passN (pureF blankB) () (c :: r)) := by unfold tokN; simp only [hb, cond_true]
   rw [saysF_at b (c :: r) (by simp), ht]
   rfl
/-- No token of these is bad. -/
def goodF (a : Nat) (l : List UInt8) : Prop := ∀ t ∈ scanF l.length a l, noBad t = true
theorem goodF_at (a : Nat) (l : List UInt8) (h : l ≠ []) (hg : goodF a l) : (tokN l).1 ≠ 3 ∧ goodF (a + (tokN l).2) (l.drop (tokN l).2) := by
 have hb := tokN_bound l h
 unfold goodF at hg ⊢
 obtain ⟨m, hm⟩ : ∃ m, l.length = m + 1 := ⟨l.length - 1, by omega⟩
 rw [hm] at hg
 have he : l.isEmpty = false := by cases l <;> simp_all
 simp only [scanF, he, cond_false] at hg
 rw [scanF_fuel m (l.drop (tokN l).2).length _ _ (by rw [List.length_drop]; omega) (Nat.le_refl _)] at hg
 refine ⟨?_, fun t ht => hg t (List.mem_cons_of_mem _ ht)⟩
 have := hg _ (List.mem_cons_self ..)
 unfold noBad at this
 simpa using this
theorem says_parted (R T : List UInt8) (a : Nat) (hg : goodF a R) : saysF a (R ++ 10 :: T) = saysF a R ++ saysF (a + R.length + 1) T := by
 obtain ⟨m, hm⟩ : ∃ m, m = R.length := ⟨_, rfl⟩
 induction m using Nat.strongRecOn generalizing R a with
 | _ m ih =>
  by_cases hR : R = []
  ·subst hR
   rw [List.nil_append, saysF_at a (10 :: T) (by simp), tok_line, saysF_nil, List.nil_append]
   have : pickT saysB [⟨1, a, a + (passN (pureF blankB) () T + 1)⟩] = [] := rfl
   simp only [this, List.nil_append, List.drop_succ_cons]
   have h2 := saysF_blanks (a + 1) T
   rw [show a + 1 + passN (pureF blankB) () T = a + (passN (pureF blankB) () T + 1) from by omega] at h2
   simpa using h2
  ·obtain ⟨hk, hg2⟩ := goodF_at a R hR hg
   have hb := tokN_bound R hR
   have hne : R ++ 10 :: T ≠ [] := by simp
   by_cases hbl : (tokN R).1 = 1 ∧ (tokN R).2 = R.length
   ·have ht := tok_blank R T hR hbl.1 hbl.2
    rw [saysF_at a _ hne, ht, saysF_at a R hR, hbl.1, hbl.2]
    have e1 : pickT saysB [⟨1, a, a + R.length⟩] = [] := rfl
    have e2 : pickT saysB [⟨1, a, a + (R.length + 1 + passN (pureF blankB) () T)⟩] = [] := rfl
    simp only [e1, e2, List.nil_append, List.drop_length, saysF_nil]
    have hd : (R ++ 10 :: T).drop (R.length + 1 + passN (pureF blankB) () T) = T.drop (passN (pureF blankB) () T) := by
     rw [show R.length + 1 + passN (pureF blankB) () T = R.length + (1 + passN (pureF blankB) () T) from by omega, List.drop_append, List.drop_of_length_le (by omega), List.nil_append, show R.length + (1 + passN (pureF blankB) () T) - R.length = passN (pureF blankB) () T + 1 from by omega, List.drop_succ_cons]
    rw [hd]
    have h2 := saysF_blanks (a + R.length + 1) T
    rw [show a + R.length + 1 + passN (pureF blankB) () T = a + (R.length + 1 + passN (pureF blankB) () T) from by omega] at h2
    exact h2
   ·have ht := tok_parted R T hR hk hbl
    rw [saysF_at a _ hne, ht, saysF_at a R hR, List.drop_append_of_le_length hb.2]
    have := ih (R.drop (tokN R).2).length (by rw [List.length_drop]; omega) (R.drop (tokN R).2) (a + (tokN R).2) hg2 rfl
    rw [this, List.append_assoc]
    congr 3
    rw [List.length_drop]; omega
def shiftT (d : Nat) (t : Tok) : Tok := ⟨t.k, t.a + d, t.e + d⟩
theorem scanF_shift (n a d : Nat) (l : List UInt8) : scanF n (a + d) l = (scanF n a l).map (shiftT d) := by
 induction n generalizing a l with
 | zero => rfl
 | succ n ih =>
  cases l with
  | nil => rfl
  | cons c r =>
   simp only [scanF, List.isEmpty_cons, cond_false, List.map_cons]
   rw [show a + d + (tokN (c :: r)).2 = a + (tokN (c :: r)).2 + d from by omega, ih]
   rfl
theorem pickT_shift (ask : Int → Bool) (d : Nat) (l : List Tok) : pickT ask (l.map (shiftT d)) = (pickT ask l).map (shiftT d) := by
 induction l with
 | nil => rfl
 | cons x r ih =>
  simp only [List.map_cons, pickT, shiftT]
  cases ask x.k
  ·exact ih
  ·simp only [cond_true, List.map_cons, ih]; rfl
theorem wordsT_says (s : ByteArray) : wordsT s = saysF 0 s.data.toList ++ [⟨0, s.size, s.size⟩] := by
 unfold wordsT scanT restT saysF
 rw [pickT_append, List.drop_zero, data_len]
 rfl
theorem first_good (s : ByteArray) (l : List Tok) (h : (firstT s l).2 = 0) : ∀ t ∈ l, noBad t = true := by
 induction l with
 | nil => intro t ht; simp at ht
 | cons x r ih =>
  simp only [firstT] at h
  cases hb : noBad x
  ·rw [hb] at h
   exact absurd h (badN_ne s x.a)
  ·rw [hb] at h
   intro t ht
   rcases List.mem_cons.1 ht with rfl | ht
   ·exact hb
   ·exact ih h t ht
/-- The words of two texts with a line end between them. -/
theorem words_parted (s t u : ByteArray) (hu : u.data.toList = s.data.toList ++ 10 :: t.data.toList) (h : (firstN s).2 = 0) :
  ∃ A, wordsT s = A ++ [⟨0, s.size, s.size⟩] ∧ wordsT u = A ++ (wordsT t).map (shiftT (s.size + 1)) := by
 refine ⟨saysF 0 s.data.toList, wordsT_says s, ?_⟩
 have hg : goodF 0 s.data.toList := by
  intro x hx
  apply first_good s _ h
  unfold scanT restT
  rw [List.drop_zero]
  rw [data_len] at hx
  exact List.mem_append_left _ hx
 have hz : u.size = s.size + 1 + t.size := by rw [← data_len, hu, List.length_append, List.length_cons, data_len, data_len]; omega
 rw [wordsT_says u, wordsT_says t, hu, says_parted _ _ 0 hg, List.map_append, List.append_assoc]
 congr 1
 have : saysF (0 + s.data.toList.length + 1) t.data.toList = (saysF 0 t.data.toList).map (shiftT (s.size + 1)) := by
  unfold saysF
  rw [← pickT_shift, ← scanF_shift, data_len]
  simp
 rw [this]
 congr 1
 simp only [List.map_cons, List.map_nil, shiftT, hz]
 congr 2 <;> omega
end Go.Proofs.YtifoodfbgghplaaGreatDoor

namespace Go.Proofs.YtifoodfbgghplaaGreatDoor
open Go.RowKit
set_option maxRecDepth 20000
set_option linter.unusedVariables false
set_option linter.unusedSimpArgs false

/-- S' has the tokens of S, but a semicolon in the place of the end. -/
structure Pre (S S' : Src) (N : Nat) : Prop where
 good : S.Good
 len : S.ts.length = N + 1
 len' : N + 1 ≤ S'.ts.length
 kd : ∀ i, i < N → S'.kd i = S.kd i
 tx : ∀ i, i < N → S'.tx i = S.tx i
 ek : S.kd N = 0
 et : (S.tx N).data.toList = []
 sk : S'.kd N = 11
 sto : (S'.tx N).data.toList = [59]
/-- Where the one comes to something, the other one comes to it. -/
def Ah {α : Type} (o o' : Out α) : Prop := ∀ x m, o = .ok x m → o' = .ok x m
/-- So, but where it comes up to the end. -/
def AhD {α : Type} (N : Nat) (o o' : Out α) : Prop := ∀ x m, o = .ok x m → m < N → o' = .ok x m
theorem ah_ok {α : Type} {x : α} {m : Nat} : Ah (.ok x m) (.ok x m) := fun _ _ h => h
theorem ah_no {α : Type} {o o' : Out α} (h : ∀ x m, o ≠ .ok x m) : Ah o o' := fun x m e => absurd e (h x m)
theorem ah_if {α : Type} {c c' : Bool} {a b a' b' : Out α} (hc : c' = c) (ha : c = true → Ah a a') (hb : c = false → Ah b b') : Ah (bif c then a else b) (bif c' then a' else b') := by
 subst hc
 cases c'
 ·exact hb rfl
 ·exact ha rfl
theorem ah_bind {S : Src} {N a n : Nat} {α β : Type} {o o' : Out α} {f f' : α → Nat → Out β} (hl : S.ts.length = N + 1) (hfin : Fin S a n o) (ho : Ah o o') (hf : ∀ x m, n + a ≤ m → m ≤ N → o = .ok x m → Ah (f x m) (f' x m)) : Ah (o.bind f) (o'.bind f') := by
 intro y q h
 cases hx : o with
 | ok x m =>
  rw [hx] at h hfin
  rw [ho x m hx]
  exact hf x m hfin.1 (by have := hfin.2; omega) hx y q h
 | form m => rw [hx] at h; cases h
 | deep m => rw [hx] at h; cases h
 | dry => rw [hx] at h; cases h
theorem ah_bindD {S : Src} {N a n : Nat} {α β : Type} {o o' : Out α} {f f' : α → Nat → Out β} (hl : S.ts.length = N + 1) (hfin : Fin S a n o) (ho : AhD N o o') (hN : ∀ x y q, f x N ≠ .ok y q) (hf : ∀ x m, n + a ≤ m → m < N → Ah (f x m) (f' x m)) : Ah (o.bind f) (o'.bind f') := by
 intro y q h
 cases hx : o with
 | ok x m =>
  rw [hx] at h hfin
  have hm : m < S.ts.length := hfin.2
  rcases Nat.lt_or_ge m N with h1 | h1
  ·rw [ho x m hx h1]
   exact hf x m hfin.1 h1 y q h
  ·have : m = N := by omega
   subst this
   exact absurd h (hN x y q)
 | form m => rw [hx] at h; cases h
 | deep m => rw [hx] at h; cases h
 | dry => rw [hx] at h; cases h
section
variable {S S' : Src} {N : Nat}
theorem Pre.lt (P : Pre S S' N) {n : Nat} (h : n ≤ N) : n < S.ts.length := by rw [P.len]; omega
theorem Pre.is (P : Pre S S' N) {n : Nat} (hn : n ≤ N) (t : List UInt8) (h0 : t ≠ []) (h1 : t ≠ [59]) : S'.is n t = S.is n t := by
 rcases Nat.lt_or_ge n N with h | h
 ·unfold Src.is; rw [P.tx n h]
 ·have : n = N := by omega
  subst this
  unfold Src.is
  rw [P.et, P.sto]
  have a : (([59] : List UInt8) == t) = false := by rw [beq_eq_false_iff_ne]; exact fun e => h1 e.symm
  have b : (([] : List UInt8) == t) = false := by rw [beq_eq_false_iff_ne]; exact fun e => h0 e.symm
  rw [a, b]
theorem Pre.is' (P : Pre S S' N) {n : Nat} (hn : n < N) (t : List UInt8) : S'.is n t = S.is n t := by unfold Src.is; rw [P.tx n hn]
theorem Pre.isN (P : Pre S S' N) (t : List UInt8) (h0 : t ≠ []) : S.is N t = false := by
 unfold Src.is
 rw [P.et, beq_eq_false_iff_ne]
 exact fun e => h0 e.symm
theorem Pre.k (P : Pre S S' N) {n : Nat} (hn : n ≤ N) (c : Int) (h0 : c ≠ 0) (h1 : c ≠ 11) : (S'.kd n == c) = (S.kd n == c) := by
 rcases Nat.lt_or_ge n N with h | h
 ·rw [P.kd n h]
 ·have : n = N := by omega
  subst this
  rw [P.ek, P.sk]
  have a : ((11 : Int) == c) = false := by rw [beq_eq_false_iff_ne]; exact fun e => h1 e.symm
  have b : ((0 : Int) == c) = false := by rw [beq_eq_false_iff_ne]; exact fun e => h0 e.symm
  rw [a, b]
theorem Pre.more (P : Pre S S' N) {n : Nat} (hn : n ≤ N) {t : List UInt8} (ht : t ≠ []) (h : S.is n t = true) : n + 1 ≤ N := by
 have := P.good.more (P.lt hn) ht h
 rw [P.len] at this
 omega
theorem Pre.moreK (P : Pre S S' N) {n : Nat} (hn : n ≤ N) (h : S.kd n ≠ 0) : n + 1 ≤ N := by
 have := P.good.moreK (P.lt hn) h
 rw [P.len] at this
 omega
theorem need_ah (P : Pre S S' N) (t : List UInt8) (h0 : t ≠ []) (h1 : t ≠ [59]) {n : Nat} (hn : n ≤ N) : Ah (S.need t n) (S'.need t n) := by
 unfold Src.need
 exact ah_if (P.is hn t h0 h1) (fun _ => ah_ok) (fun _ => ah_no (fun _ _ e => by cases e))
theorem need_N (P : Pre S S' N) (t : List UInt8) (h0 : t ≠ []) : S.need t N = .form N := by
 unfold Src.need
 rw [P.isN t h0]; rfl
theorem take_ah (P : Pre S S' N) (ks : List Int) (h0 : ks.contains 0 = false) (h1 : ks.contains 11 = false) {n : Nat} (hn : n ≤ N) : Ah (S.take ks n) (S'.take ks n) := by
 unfold Src.take
 refine ah_if ?_ (fun _ => ah_ok) (fun _ => ah_no (fun _ _ e => by cases e))
 rcases Nat.lt_or_ge n N with h | h
 ·rw [P.kd n h]
 ·have : n = N := by omega
  subst this
  rw [P.ek, P.sk, h0, h1]
theorem pathL_ah (P : Pre S S' N) (ks : List Int) (h0 : ks.contains 0 = false) (h1 : ks.contains 11 = false) : ∀ (f f' : Nat) (acc : List Nat) (n : Nat), f ≤ f' → 0 < n → n ≤ N → Ah (S.pathL ks f acc n) (S'.pathL ks f' acc n) := by
 intro f
 induction f with
 | zero => intro f' acc n _ _ _; exact ah_no (fun _ _ e => by cases e)
 | succ f ih =>
  intro f' acc n hf hn hN
  obtain ⟨q, rfl⟩ : ∃ q, f' = q + 1 := ⟨f' - 1, by omega⟩
  unfold Src.pathL
  refine ah_if (by rw [P.k (n := n - 1) (by omega) 7 (by omega) (by omega), P.is hN _ (by simp) (by decide)]) (fun h => ?_) (fun _ => ah_ok)
  simp only [Bool.and_eq_true] at h
  have h2 := P.more hN (by simp) h.2
  exact ah_bind P.len (take_fin P.good h0 (P.lt h2)) (take_ah P ks h0 h1 h2) (fun x m hm hmN _ => ih q _ m (by omega) (by omega) hmN)
theorem path_ah (P : Pre S S' N) (ks : List Int) (h0 : ks.contains 0 = false) (h1 : ks.contains 11 = false) {n : Nat} (hn : n ≤ N) : Ah (S.path ks n) (S'.path ks n) := by
 unfold Src.path
 exact ah_bind P.len (take_fin P.good h0 (P.lt hn)) (take_ah P ks h0 h1 hn) (fun x m hm hmN _ => pathL_ah P ks h0 h1 _ _ [x] m (by rw [P.len]; exact P.len') (by omega) hmN)
theorem typePath_ah (P : Pre S S' N) {n : Nat} (hn : n ≤ N) : Ah (S.typePath n) (S'.typePath n) := by
 unfold Src.typePath
 exact ah_bind P.len (path_fin P.good (by decide) (P.lt hn)) (path_ah P _ (by decide) (by decide) hn) (fun p m hm hmN _ => ah_if (P.k (by omega) 6 (by omega) (by omega)) (fun _ => ah_ok) (fun _ => ah_no (fun _ _ e => by cases e)))
theorem value_ah (P : Pre S S' N) {n : Nat} (hn : n ≤ N) : Ah (S.value n) (S'.value n) := by
 unfold Src.value
 exact ah_if (P.is hn _ (by simp) (by decide)) (fun h => take_ah P _ (by decide) (by decide) (P.more hn (by simp) h)) (fun _ => take_ah P _ (by decide) (by decide) hn)
theorem Pre.begins (P : Pre S S' N) {n : Nat} (hn : n ≤ N) (o : List UInt8) (h0 : o ≠ []) (h1 : o ≠ [59]) : S'.begins [o] n = S.begins [o] n := by
 unfold Src.begins Src.beginsK
 simp only [List.any_cons, List.any_nil, Bool.or_false]
 rw [P.k hn 4 (by omega) (by omega), P.k hn 5 (by omega) (by omega), P.k hn 6 (by omega) (by omega), P.k hn 7 (by omega) (by omega), P.is hn _ (by simp) (by decide), P.is hn _ (by simp) (by decide), P.is hn o h0 h1]
theorem Pre.colon (P : Pre S S' N) {n : Nat} (hn : n ≤ N) : S'.colon n = S.colon n := by
 unfold Src.colon
 rw [P.is hn _ (by simp) (by decide), P.is hn _ (by simp) (by decide)]
theorem Pre.declares (P : Pre S S' N) {n : Nat} (hn : n ≤ N) (a : Nat) : declares S' a n = declares S a n := by
 unfold Go.Proofs.YtifoodfbgghplaaGreatDoor.declares
 simp only [P.is hn _ (show ([115, 105, 103, 110, 97, 116, 117, 114, 101] : List UInt8) ≠ [] by simp) (by decide), P.is hn _ (show ([102, 117, 110, 99, 116, 111, 114] : List UInt8) ≠ [] by simp) (by decide), P.is hn _ (show ([115, 116, 114, 117, 99, 116, 117, 114, 101] : List UInt8) ≠ [] by simp) (by decide), P.is hn _ (show ([118, 97, 108] : List UInt8) ≠ [] by simp) (by decide), P.is hn _ (show ([102, 117, 110] : List UInt8) ≠ [] by simp) (by decide), P.is hn _ (show ([116, 121, 112, 101] : List UInt8) ≠ [] by simp) (by decide), P.is hn _ (show ([100, 97, 116, 97, 116, 121, 112, 101] : List UInt8) ≠ [] by simp) (by decide), P.is hn _ (show ([111, 112, 101, 110] : List UInt8) ≠ [] by simp) (by decide), P.is hn _ (show ([108, 111, 99, 97, 108] : List UInt8) ≠ [] by simp) (by decide)]
theorem rowL_ah (P : Pre S S' N) (mark : List UInt8) (h0 : mark ≠ []) (h1 : mark ≠ [59]) {read read' : Nat → Out Pb} (hfr : ∀ n, n < S.ts.length → Fin S 1 n (read n)) (hr : ∀ n, n ≤ N → Ah (read n) (read' n)) : ∀ (f f' : Nat) (acc : List Pb) (n : Nat), f ≤ f' → n ≤ N → Ah (rowL S mark read f acc n) (rowL S' mark read' f' acc n) := by
 intro f
 induction f with
 | zero => intro f' acc n _ _; exact ah_no (fun _ _ e => by cases e)
 | succ f ih =>
  intro f' acc n hf hn
  obtain ⟨q, rfl⟩ : ∃ q, f' = q + 1 := ⟨f' - 1, by omega⟩
  unfold rowL
  refine ah_if (P.is hn mark h0 h1) (fun h => ?_) (fun _ => ah_ok)
  have h2 := P.more hn h0 h
  exact ah_bind P.len (hfr _ (P.lt h2)) (hr _ h2) (fun b m hm hmN _ => ih q _ m (by omega) hmN)
theorem rowO_ah (P : Pre S S' N) {F F' : Nat} (hF : F ≤ F') (mark : List UInt8) (h0 : mark ≠ []) (h1 : mark ≠ [59]) {read read' : Nat → Out Pb} (hfr : ∀ n, n < S.ts.length → Fin S 1 n (read n)) (hr : ∀ n, n ≤ N → Ah (read n) (read' n)) {n : Nat} (hn : n ≤ N) : Ah (rowO S F mark read n) (rowO S' F' mark read' n) := by
 unfold rowO
 exact ah_bind P.len (hfr _ (P.lt hn)) (hr _ hn) (fun b m hm hmN _ => rowL_ah P mark h0 h1 hfr hr F F' [b] m hF hmN)
end
end Go.Proofs.YtifoodfbgghplaaGreatDoor

namespace Go.Proofs.YtifoodfbgghplaaGreatDoor
open Go.RowKit
set_option maxRecDepth 20000
set_option linter.unusedVariables false
set_option linter.unusedSimpArgs false

section
variable {S S' : Src} {N : Nat}
theorem Pre.and (P : Pre S S' N) {n : Nat} (hn : n ≤ N) (c : Int) (h0 : c ≠ 0) (h1 : c ≠ 11) (t : List UInt8) (g0 : t ≠ []) (g1 : t ≠ [59]) : (S'.kd n == c && S'.is (n + 1) t) = (S.kd n == c && S.is (n + 1) t) := by
 rw [P.k hn c h0 h1]
 cases h : (S.kd n == c)
 ·rfl
 ·rw [P.is (P.moreK hn (by have := beq_iff_eq.1 h; omega)) t g0 g1]
theorem needN (P : Pre S S' N) {t : List UInt8} (h0 : t ≠ []) {α : Type} {f : Unit → Nat → Out α} (y : α) (q : Nat) : (S.need t N).bind f ≠ .ok y q := by
 rw [need_N P t h0]; intro e; cases e
theorem ahD_if {α : Type} {c c' : Bool} {a b a' b' : Out α} (hc : c' = c) (ha : c = true → AhD N a a') (hb : c = false → AhD N b b') : AhD N (bif c then a else b) (bif c' then a' else b') := by
 subst hc
 cases c'
 ·exact hb rfl
 ·exact ha rfl
theorem ahD_bind {a n : Nat} {α β : Type} {o o' : Out α} {f f' : α → Nat → Out β} (hl : S.ts.length = N + 1) (hfin : Fin S a n o) (ho : Ah o o') (hf : ∀ x m, n + a ≤ m → m ≤ N → AhD N (f x m) (f' x m)) : AhD N (o.bind f) (o'.bind f') := by
 intro y q h hq
 cases hx : o with
 | ok x m =>
  rw [hx] at h hfin
  rw [ho x m hx]
  exact hf x m hfin.1 (by have := hfin.2; omega) y q h hq
 | form m => rw [hx] at h; cases h
 | deep m => rw [hx] at h; cases h
 | dry => rw [hx] at h; cases h
theorem atomicTyO_ah (P : Pre S S' N) {F F' : Nat} (hL : S.ts.length ≤ F) (hF : F ≤ F') {rec rec' : Nt → Nat → Nat → Out Pb} {d : Nat} (hrec : ∀ nt k, k < S.ts.length → S.may nt k → Fin S 1 k (rec nt d k)) (hr : ∀ nt n, n ≤ N → S.may nt n → Ah (rec nt d n) (rec' nt d n)) {n : Nat} (hn : n ≤ N) : Ah (atomicTyO S F rec d n) (atomicTyO S' F' rec' d n) := by
 unfold atomicTyO
 refine ah_if (P.k hn 8 (by omega) (by omega)) (fun _ => ah_ok) (fun _ => ah_if (P.is hn _ (by simp) (by decide)) (fun h => ?_) (fun _ => ?_))
 ·refine ah_bind P.len (rowO_fin P.good hL (by simp) (fun k hk => hrec .ty k hk trivial) (P.lt (P.more hn (by simp) h))) (rowO_ah P hF _ (by simp) (by decide) (fun k hk => hrec .ty k hk trivial) (fun n hn => hr .ty n hn trivial) (P.more hn (by simp) h)) (fun l m hm km em => ?_)
  refine ah_bind P.len (need_fin P.good (by simp) (P.lt km)) (need_ah P _ (by simp) (by decide) km) (fun u m2 hm2 km2 em2 => ?_)
  match l with
  | [b] => exact ah_ok
  | [] => refine ah_bind P.len (typePath_fin P.good (P.lt km2)) (typePath_ah P km2) (fun p m3 hm3 km3 em3 => ah_ok)
  | a :: b :: c => refine ah_bind P.len (typePath_fin P.good (P.lt km2)) (typePath_ah P km2) (fun p m3 hm3 km3 em3 => ah_ok)
 ·refine ah_bind P.len (typePath_fin P.good (P.lt hn)) (typePath_ah P hn) (fun p m3 hm3 km3 em3 => ah_ok)
theorem appliedL_ah (P : Pre S S' N) (n : Nat) : ∀ (f f' : Nat) (b : Pb) (m : Nat), f ≤ f' → m ≤ N → Ah (appliedL S n f b m) (appliedL S' n f' b m) := by
 intro f
 induction f with
 | zero => intro f' b m _ _; exact ah_no (fun _ _ e => by cases e)
 | succ f ih =>
  intro f' b m hf hn
  obtain ⟨q, rfl⟩ : ∃ q, f' = q + 1 := ⟨f' - 1, by omega⟩
  unfold appliedL
  refine ah_if (by rw [P.k hn 6 (by omega) (by omega), P.k hn 7 (by omega) (by omega)]) (fun _ => ?_) (fun _ => ah_ok)
  refine ah_bind P.len (typePath_fin P.good (P.lt hn)) (typePath_ah P hn) (fun p m1 hm1 km1 em1 => ih q _ m1 (by omega) km1)
theorem appliedO_ah (P : Pre S S' N) {F F' : Nat} (hL : S.ts.length ≤ F) (hF : F ≤ F') {rec rec' : Nt → Nat → Nat → Out Pb} {d : Nat} (hrec : ∀ nt k, k < S.ts.length → S.may nt k → Fin S 1 k (rec nt d k)) (hr : ∀ nt n, n ≤ N → S.may nt n → Ah (rec nt d n) (rec' nt d n)) {n : Nat} (hn : n ≤ N) : Ah (appliedO S F rec d n) (appliedO S' F' rec' d n) := by
 unfold appliedO
 refine ah_bind P.len (atomicTyO_fin P.good hL hrec (P.lt hn)) (atomicTyO_ah P hL hF hrec hr hn) (fun b m hm km em => appliedL_ah P n F F' b m hF km)
theorem productO_ah (P : Pre S S' N) {F F' : Nat} (hL : S.ts.length ≤ F) (hF : F ≤ F') {rec rec' : Nt → Nat → Nat → Out Pb} {d : Nat} (hrec : ∀ nt k, k < S.ts.length → S.may nt k → Fin S 1 k (rec nt d k)) (hr : ∀ nt n, n ≤ N → S.may nt n → Ah (rec nt d n) (rec' nt d n)) {n : Nat} (hn : n ≤ N) : Ah (productO S F rec d n) (productO S' F' rec' d n) := by
 unfold productO
 refine ah_bind P.len (rowO_fin P.good hL (by simp) (fun k hk => appliedO_fin P.good hL hrec hk) (P.lt hn)) (rowO_ah P hF _ (by simp) (by decide) (fun k hk => appliedO_fin P.good hL hrec hk) (fun n hn => appliedO_ah P hL hF hrec hr hn) hn) (fun l m hm km em => ah_ok)
theorem tyO_ah (P : Pre S S' N) {F F' : Nat} (hL : S.ts.length ≤ F) (hF : F ≤ F') {rec rec' : Nt → Nat → Nat → Out Pb} {d : Nat} (hrec : ∀ nt k, k < S.ts.length → S.may nt k → Fin S 1 k (rec nt d k)) (hr : ∀ nt n, n ≤ N → S.may nt n → Ah (rec nt d n) (rec' nt d n)) {n : Nat} (hn : n ≤ N) : Ah (tyO S F rec d n) (tyO S' F' rec' d n) := by
 unfold tyO
 refine ah_bind P.len (productO_fin P.good hL hrec (P.lt hn)) (productO_ah P hL hF hrec hr hn) (fun b m hm km em => ah_if (P.is km _ (by simp) (by decide)) (fun h => ?_) (fun _ => ah_ok))
 refine ah_bind P.len (hrec .ty _ (P.lt (P.more km (by simp) h)) trivial) (hr .ty _ (P.more km (by simp) h) trivial) (fun c m2 hm2 km2 em2 => ah_ok)
theorem tupleO_ah (P : Pre S S' N) {F F' : Nat} (hL : S.ts.length ≤ F) (hF : F ≤ F') (fr : Nat) {mem mem' : Nat → Out Pb} (hmf : ∀ k, k < S.ts.length → Fin S 1 k (mem k)) (hm : ∀ n, n ≤ N → Ah (mem n) (mem' n)) {n : Nat} (hn : n ≤ N) : Ah (tupleO S F fr mem n) (tupleO S' F' fr mem' n) := by
 unfold tupleO
 refine ah_if (P.is hn _ (by simp) (by decide)) (fun _ => ah_ok) (fun _ => ?_)
 refine ah_bind P.len (rowO_fin P.good hL (by simp) hmf (P.lt hn)) (rowO_ah P hF _ (by simp) (by decide) hmf hm hn) (fun l m hm km em => ?_)
 refine ah_bind P.len (need_fin P.good (by simp) (P.lt km)) (need_ah P _ (by simp) (by decide) km) (fun u m2 hm2 km2 em2 => ah_ok)
theorem plainO_ah (P : Pre S S' N) {F F' : Nat} (hL : S.ts.length ≤ F) (hF : F ≤ F') (nm : Int) {mem mem' : Nat → Out Pb} (hmf : ∀ k, k < S.ts.length → Fin S 1 k (mem k)) (hm : ∀ n, n ≤ N → Ah (mem n) (mem' n)) {n : Nat} (hn : n ≤ N) : Ah (plainO S F nm mem n) (plainO S' F' nm mem' n) := by
 unfold plainO
 refine ah_if (P.k hn _ (by omega) (by omega)) (fun _ => ah_ok) (fun _ => ah_if (P.k hn _ (by omega) (by omega)) (fun _ => ah_ok) (fun _ => ah_if (P.is hn _ (by simp) (by decide)) (fun h => ?_) (fun _ => ?_)))
 ·exact tupleO_ah P hL hF n hmf hm (P.more hn (by simp) h)
 ·refine ah_bind P.len (value_fin P.good (P.lt hn)) (value_ah P hn) (fun x m2 hm2 km2 em2 => ah_ok)
theorem atomicPatO_ah (P : Pre S S' N) {F F' : Nat} (hL : S.ts.length ≤ F) (hF : F ≤ F') {rec rec' : Nt → Nat → Nat → Out Pb} {d : Nat} (hrec : ∀ nt k, k < S.ts.length → S.may nt k → Fin S 1 k (rec nt d k)) (hr : ∀ nt n, n ≤ N → S.may nt n → Ah (rec nt d n) (rec' nt d n)) {n : Nat} (hn : n ≤ N) : Ah (atomicPatO S F rec d n) (atomicPatO S' F' rec' d n) := by
 unfold atomicPatO
 refine ah_if (P.is hn _ (by simp) (by decide)) (fun _ => ah_ok) (fun _ => ah_if (P.k hn 7 (by omega) (by omega)) (fun _ => ?_) (fun _ => plainO_ah P hL hF 39 (fun k hk => hrec .pat k hk trivial) (fun n hn => hr .pat n hn trivial) hn))
 refine ah_bind P.len (path_fin P.good (by decide) (P.lt hn)) (path_ah P _ (by decide) (by decide) hn) (fun p m hm km em => ah_ok)
theorem patO_ah (P : Pre S S' N) {F F' : Nat} (hL : S.ts.length ≤ F) (hF : F ≤ F') {rec rec' : Nt → Nat → Nat → Out Pb} {d : Nat} (hrec : ∀ nt k, k < S.ts.length → S.may nt k → Fin S 1 k (rec nt d k)) (hr : ∀ nt n, n ≤ N → S.may nt n → Ah (rec nt d n) (rec' nt d n)) {n : Nat} (hn : n ≤ N) : Ah (patO S F rec d n) (patO S' F' rec' d n) := by
 unfold patO
 refine ah_if (P.and hn _ (by omega) (by omega) _ (by simp) (by decide)) (fun h => ?_) (fun _ => ah_if (P.k hn 7 (by omega) (by omega)) (fun _ => ?_) (fun _ => atomicPatO_ah P hL hF hrec hr hn))
 ·simp only [Bool.and_eq_true, beq_iff_eq] at h
  have h1 := P.moreK hn (by omega)
  have h2 := P.more h1 (by simp) h.2
  refine ah_bind P.len (hrec .pat _ (P.lt h2) trivial) (hr .pat _ h2 trivial) (fun c m2 hm2 km2 em2 => ah_ok)
 ·refine ah_bind P.len (path_fin P.good (by decide) (P.lt hn)) (path_ah P _ (by decide) (by decide) hn) (fun p m hm km em => ah_if (P.begins km _ (by simp) (by decide)) (fun _ => ?_) (fun _ => ah_ok))
  refine ah_bind P.len (atomicPatO_fin P.good hL hrec (P.lt km)) (atomicPatO_ah P hL hF hrec hr km) (fun c m2 hm2 km2 em2 => ah_ok)
theorem decsL_ah (P : Pre S S' N) {F F' : Nat} (hL : S.ts.length ≤ F) (hF : F ≤ F') {rec rec' : Nt → Nat → Nat → Out Pb} {d : Nat} (hrec : ∀ nt k, k < S.ts.length → S.may nt k → Fin S 1 k (rec nt d k)) (hr : ∀ nt n, n ≤ N → S.may nt n → Ah (rec nt d n) (rec' nt d n)) (a : Nat) : ∀ (f f' : Nat) (acc : List Pb) (n : Nat), f ≤ f' → n ≤ N → S.ts.length < f + n + 1 → AhD N (decsL S rec d a f acc n) (decsL S' rec' d a f' acc n) := by
 intro f
 induction f with
 | zero => intro f' acc n _ hn hl; have := P.len; omega
 | succ f ih =>
  intro f' acc n hf hn hl
  obtain ⟨q, rfl⟩ : ∃ q, f' = q + 1 := ⟨f' - 1, by omega⟩
  rcases Nat.lt_or_ge n N with h | h
  ·unfold decsL
   refine ahD_if (P.is' h _) (fun _ => ih q acc (n + 1) (by omega) h (by omega)) (fun _ => ahD_if (P.declares hn a) (fun hd => ?_) (fun _ => fun _ _ e _ => e))
   exact ahD_bind P.len (hrec (.dec a) n (P.lt hn) hd) (hr (.dec a) n hn hd) (fun b m hm km => ih q _ m (by omega) km (by omega))
  ·have : n = N := by omega
   subst this
   intro x m e hm
   have := (decsL_fin P.good hL hrec a (f + 1) acc n (P.lt hn) hl)
   rw [e] at this
   have := this.1
   omega
theorem decsO_ah (P : Pre S S' N) {F F' : Nat} (hL : S.ts.length ≤ F) (hF : F ≤ F') {rec rec' : Nt → Nat → Nat → Out Pb} {d : Nat} (hrec : ∀ nt k, k < S.ts.length → S.may nt k → Fin S 1 k (rec nt d k)) (hr : ∀ nt n, n ≤ N → S.may nt n → Ah (rec nt d n) (rec' nt d n)) (a : Nat) {n : Nat} (hn : n ≤ N) : AhD N (decsO S F rec d a n) (decsO S' F' rec' d a n) :=
 decsL_ah P hL hF hrec hr a F F' [] n hF hn (by omega)
theorem withinO_ah (P : Pre S S' N) {F F' : Nat} (hL : S.ts.length ≤ F) (hF : F ≤ F') {rec rec' : Nt → Nat → Nat → Out Pb} {d : Nat} (hrec : ∀ nt k, k < S.ts.length → S.may nt k → Fin S 1 k (rec nt d k)) (hr : ∀ nt n, n ≤ N → S.may nt n → Ah (rec nt d n) (rec' nt d n)) (a : Nat) {n : Nat} (hn : n ≤ N) : AhD N (withinO S F rec d a n) (withinO S' F' rec' d a n) := by
 unfold withinO
 intro y q h hq
 cases hx : decsO S F rec d a n with
 | ok x m =>
  rw [hx] at h
  have hm : m = q := by cases h; rfl
  rw [decsO_ah P hL hF hrec hr a hn x m hx (by omega)]
  exact h
 | form m => rw [hx] at h; cases h
 | deep m => rw [hx] at h; cases h
 | dry => rw [hx] at h; cases h
theorem atomO_ah (P : Pre S S' N) {F F' : Nat} (hL : S.ts.length ≤ F) (hF : F ≤ F') {rec rec' : Nt → Nat → Nat → Out Pb} {d : Nat} (hrec : ∀ nt k, k < S.ts.length → S.may nt k → Fin S 1 k (rec nt d k)) (hr : ∀ nt n, n ≤ N → S.may nt n → Ah (rec nt d n) (rec' nt d n)) {n : Nat} (hn : n ≤ N) : Ah (atomO S F rec d n) (atomO S' F' rec' d n) := by
 unfold atomO
 refine ah_if (P.k hn 7 (by omega) (by omega)) (fun _ => ?_) (fun _ => ah_if (P.is hn _ (by simp) (by decide)) (fun h => ?_) (fun _ => plainO_ah P hL hF 28 (fun k hk => hrec .exp k hk trivial) (fun n hn => hr .exp n hn trivial) hn))
 ·refine ah_bind P.len (path_fin P.good (by decide) (P.lt hn)) (path_ah P _ (by decide) (by decide) hn) (fun p m hm km em => ah_if (by rw [P.kd (m - 1) (by omega)]) (fun _ => ah_ok) (fun _ => ah_ok))
 ·refine ah_bindD P.len (withinO_fin P.good hL hrec 0 (P.lt (P.more hn (by simp) h))) (withinO_ah P hL hF hrec hr 0 (P.more hn (by simp) h)) (fun _ => needN P (by simp)) (fun ds m hm lm => ?_)
  have km : m ≤ N := Nat.le_of_lt lm
  refine ah_bind P.len (need_fin P.good (by simp) (P.lt km)) (need_ah P _ (by simp) (by decide) km) (fun x1 m1 hm1 km1 em1 => ?_)
  refine ah_bind P.len (hrec .exp _ (P.lt km1) trivial) (hr .exp _ km1 trivial) (fun x2 m2 hm2 km2 em2 => ?_)
  refine ah_bind P.len (need_fin P.good (by simp) (P.lt km2)) (need_ah P _ (by simp) (by decide) km2) (fun x3 m3 hm3 km3 em3 => ?_)
  exact ah_ok
theorem callL_ah (P : Pre S S' N) {F F' : Nat} (hL : S.ts.length ≤ F) (hF : F ≤ F') {rec rec' : Nt → Nat → Nat → Out Pb} {d : Nat} (hrec : ∀ nt k, k < S.ts.length → S.may nt k → Fin S 1 k (rec nt d k)) (hr : ∀ nt n, n ≤ N → S.may nt n → Ah (rec nt d n) (rec' nt d n)) : ∀ (f f' : Nat) (acc : List Pb) (n : Nat), f ≤ f' → n ≤ N → Ah (callL S F rec d f acc n) (callL S' F' rec' d f' acc n) := by
 intro f
 induction f with
 | zero => intro f' _ n _ _; exact ah_no (fun _ _ e => by cases e)
 | succ f ih =>
  intro f' acc n hf hn
  obtain ⟨q, rfl⟩ : ∃ q, f' = q + 1 := ⟨f' - 1, by omega⟩
  unfold callL
  refine ah_if (P.begins hn _ (by simp) (by decide)) (fun _ => ?_) (fun _ => ah_ok)
  refine ah_bind P.len (atomO_fin P.good hL hrec (P.lt hn)) (atomO_ah P hL hF hrec hr hn) (fun b m hm km em => ih q _ m (by omega) km)
theorem callO_ah (P : Pre S S' N) {F F' : Nat} (hL : S.ts.length ≤ F) (hF : F ≤ F') {rec rec' : Nt → Nat → Nat → Out Pb} {d : Nat} (hrec : ∀ nt k, k < S.ts.length → S.may nt k → Fin S 1 k (rec nt d k)) (hr : ∀ nt n, n ≤ N → S.may nt n → Ah (rec nt d n) (rec' nt d n)) {n : Nat} (hn : n ≤ N) : Ah (callO S F rec d n) (callO S' F' rec' d n) := by
 unfold callO
 refine ah_bind P.len (atomO_fin P.good hL hrec (P.lt hn)) (atomO_ah P hL hF hrec hr hn) (fun b m hm km em => ?_)
 refine ah_bind P.len (callL_fin P.good hL hrec F [b] m (P.lt km) (by omega)) (callL_ah P hL hF hrec hr F F' [b] m hF km) (fun l m2 _ _ _ => ah_ok)
theorem infixL_ah (P : Pre S S' N) {F F' : Nat} (hL : S.ts.length ≤ F) (hF : F ≤ F') {rec rec' : Nt → Nat → Nat → Out Pb} {d : Nat} (hrec : ∀ nt k, k < S.ts.length → S.may nt k → Fin S 1 k (rec nt d k)) (hr : ∀ nt n, n ≤ N → S.may nt n → Ah (rec nt d n) (rec' nt d n)) : ∀ (f f' : Nat) (sg : List Nat) (acc : List Pb) (n : Nat), f ≤ f' → n ≤ N → Ah (infixL S F rec d f sg acc n) (infixL S' F' rec' d f' sg acc n) := by
 intro f
 induction f with
 | zero => intro f' sg acc n _ _; exact ah_no (fun _ _ e => by cases e)
 | succ f ih =>
  intro f' sg acc n hf hn
  obtain ⟨q, rfl⟩ : ∃ q, f' = q + 1 := ⟨f' - 1, by omega⟩
  unfold infixL
  refine ah_if (P.k hn 9 (by omega) (by omega)) (fun _ => ?_) (fun _ => ah_ok)
  refine ah_bind P.len (take_fin P.good (by decide) (P.lt hn)) (take_ah P _ (by decide) (by decide) hn) (fun x m hm km em => ?_)
  refine ah_bind P.len (callO_fin P.good hL hrec (P.lt km)) (callO_ah P hL hF hrec hr km) (fun b m2 hm2 km2 em2 => ih q _ _ m2 (by omega) km2)
theorem infixO_ah (P : Pre S S' N) {F F' : Nat} (hL : S.ts.length ≤ F) (hF : F ≤ F') {rec rec' : Nt → Nat → Nat → Out Pb} {d : Nat} (hrec : ∀ nt k, k < S.ts.length → S.may nt k → Fin S 1 k (rec nt d k)) (hr : ∀ nt n, n ≤ N → S.may nt n → Ah (rec nt d n) (rec' nt d n)) {n : Nat} (hn : n ≤ N) : Ah (infixO S F rec d n) (infixO S' F' rec' d n) := by
 unfold infixO
 refine ah_bind P.len (callO_fin P.good hL hrec (P.lt hn)) (callO_ah P hL hF hrec hr hn) (fun b m hm km em => ?_)
 refine ah_bind P.len (infixL_fin P.good hL hrec F [] [b] m (P.lt km) (by omega)) (infixL_ah P hL hF hrec hr F F' [] [b] m hF km) (fun l m2 _ _ _ => ah_ok)
theorem clauseO_ah (P : Pre S S' N) {F F' : Nat} (hL : S.ts.length ≤ F) (hF : F ≤ F') {rec rec' : Nt → Nat → Nat → Out Pb} {d : Nat} (hrec : ∀ nt k, k < S.ts.length → S.may nt k → Fin S 1 k (rec nt d k)) (hr : ∀ nt n, n ≤ N → S.may nt n → Ah (rec nt d n) (rec' nt d n)) (a : Int) (fr : Nat) {n : Nat} (hn : n ≤ N) : Ah (clauseO S rec d a fr n) (clauseO S' rec' d a fr n) := by
 unfold clauseO
 refine ah_bind P.len (hrec .pat _ (P.lt hn) trivial) (hr .pat _ hn trivial) (fun x1 m1 hm1 km1 em1 => ?_)
 refine ah_bind P.len (need_fin P.good (by simp) (P.lt km1)) (need_ah P _ (by simp) (by decide) km1) (fun x2 m2 hm2 km2 em2 => ?_)
 refine ah_bind P.len (hrec .exp _ (P.lt km2) trivial) (hr .exp _ km2 trivial) (fun x3 m3 hm3 km3 em3 => ?_)
 exact ah_ok
theorem expO_ah (P : Pre S S' N) {F F' : Nat} (hL : S.ts.length ≤ F) (hF : F ≤ F') {rec rec' : Nt → Nat → Nat → Out Pb} {d : Nat} (hrec : ∀ nt k, k < S.ts.length → S.may nt k → Fin S 1 k (rec nt d k)) (hr : ∀ nt n, n ≤ N → S.may nt n → Ah (rec nt d n) (rec' nt d n)) {n : Nat} (hn : n ≤ N) : Ah (expO S F rec d n) (expO S' F' rec' d n) := by
 unfold expO
 refine ah_if (P.is hn _ (by simp) (by decide)) (fun h => ?_) (fun _ => ah_if (P.is hn _ (by simp) (by decide)) (fun h => ?_) (fun _ => ah_if (P.is hn _ (by simp) (by decide)) (fun h => ?_) (fun _ => infixO_ah P hL hF hrec hr hn)))
 ·refine ah_bind P.len (hrec .exp _ (P.lt (P.more hn (by simp) h)) trivial) (hr .exp _ (P.more hn (by simp) h) trivial) (fun x1 m1 hm1 km1 em1 => ?_)
  refine ah_bind P.len (need_fin P.good (by simp) (P.lt km1)) (need_ah P _ (by simp) (by decide) km1) (fun x2 m2 hm2 km2 em2 => ?_)
  refine ah_bind P.len (hrec .exp _ (P.lt km2) trivial) (hr .exp _ km2 trivial) (fun x3 m3 hm3 km3 em3 => ?_)
  refine ah_bind P.len (need_fin P.good (by simp) (P.lt km3)) (need_ah P _ (by simp) (by decide) km3) (fun x4 m4 hm4 km4 em4 => ?_)
  refine ah_bind P.len (hrec .exp _ (P.lt km4) trivial) (hr .exp _ km4 trivial) (fun x5 m5 hm5 km5 em5 => ?_)
  exact ah_ok
 ·refine ah_bind P.len (hrec .exp _ (P.lt (P.more hn (by simp) h)) trivial) (hr .exp _ (P.more hn (by simp) h) trivial) (fun x1 m1 hm1 km1 em1 => ?_)
  refine ah_bind P.len (need_fin P.good (by simp) (P.lt km1)) (need_ah P _ (by simp) (by decide) km1) (fun x2 m2 hm2 km2 em2 => ?_)
  refine ah_bind P.len (rowO_fin P.good hL (by simp) (fun k hk => armO_fin P.good hL hrec hk) (P.lt km2)) (rowO_ah P hF _ (by simp) (by decide) (fun k hk => armO_fin P.good hL hrec hk) (fun n hn => clauseO_ah P hL hF hrec hr 33 n hn) km2) (fun x3 m3 hm3 km3 em3 => ?_)
  exact ah_ok
 ·exact clauseO_ah P hL hF hrec hr 34 n (P.more hn (by simp) h)
theorem varsL_ah (P : Pre S S' N) : ∀ (f f' n : Nat), f ≤ f' → n ≤ N → Ah (varsL S f n) (varsL S' f' n) := by
 intro f
 induction f with
 | zero => intro f' n _ _; exact ah_no (fun _ _ e => by cases e)
 | succ f ih =>
  intro f' n hf hn
  obtain ⟨q, rfl⟩ : ∃ q, f' = q + 1 := ⟨f' - 1, by omega⟩
  unfold varsL
  refine ah_if (P.is hn _ (by simp) (by decide)) (fun h => ?_) (fun _ => ah_ok)
  refine ah_bind P.len (take_fin P.good (by decide) (P.lt (P.more hn (by simp) h))) (take_ah P _ (by decide) (by decide) (P.more hn (by simp) h)) (fun x m hm km em => ih q m (by omega) km)
theorem typeNameO_ah (P : Pre S S' N) {F F' : Nat} (hL : S.ts.length ≤ F) (hF : F ≤ F') {n : Nat} (hn : n ≤ N) : Ah (typeNameO S F n) (typeNameO S' F' n) := by
 unfold typeNameO
 refine ah_if (P.k hn 8 (by omega) (by omega)) (fun h => ?_) (fun _ => ah_if (P.is hn _ (by simp) (by decide)) (fun h => ?_) (fun _ => take_ah P _ (by decide) (by decide) hn))
 ·exact take_ah P _ (by decide) (by decide) (P.moreK hn (by have := beq_iff_eq.1 h; omega))
 ·refine ah_bind P.len (take_fin P.good (by decide) (P.lt (P.more hn (by simp) h))) (take_ah P _ (by decide) (by decide) (P.more hn (by simp) h)) (fun x m hm km em => ?_)
  refine ah_bind P.len (varsL_fin P.good F m (P.lt km) (by omega)) (varsL_ah P F F' m hF km) (fun u m2 hm2 km2 _ => ?_)
  refine ah_bind P.len (need_fin P.good (by simp) (P.lt km2)) (need_ah P _ (by simp) (by decide) km2) (fun u m3 hm3 km3 em3 => ?_)
  exact take_ah P _ (by decide) (by decide) km3
theorem conO_ah (P : Pre S S' N) {F F' : Nat} (hL : S.ts.length ≤ F) (hF : F ≤ F') {rec rec' : Nt → Nat → Nat → Out Pb} {d : Nat} (hrec : ∀ nt k, k < S.ts.length → S.may nt k → Fin S 1 k (rec nt d k)) (hr : ∀ nt n, n ≤ N → S.may nt n → Ah (rec nt d n) (rec' nt d n)) {n : Nat} (hn : n ≤ N) : Ah (conO S rec d n) (conO S' rec' d n) := by
 unfold conO
 refine ah_bind P.len (take_fin P.good (by decide) (P.lt hn)) (take_ah P _ (by decide) (by decide) hn) (fun x m hm km em => ah_if (P.is km _ (by simp) (by decide)) (fun h => ?_) (fun _ => ah_ok))
 refine ah_bind P.len (hrec .ty _ (P.lt (P.more km (by simp) h)) trivial) (hr .ty _ (P.more km (by simp) h) trivial) (fun c m2 hm2 km2 em2 => ah_ok)
theorem dbindO_ah (P : Pre S S' N) {F F' : Nat} (hL : S.ts.length ≤ F) (hF : F ≤ F') {rec rec' : Nt → Nat → Nat → Out Pb} {d : Nat} (hrec : ∀ nt k, k < S.ts.length → S.may nt k → Fin S 1 k (rec nt d k)) (hr : ∀ nt n, n ≤ N → S.may nt n → Ah (rec nt d n) (rec' nt d n)) {n : Nat} (hn : n ≤ N) : Ah (dbindO S F rec d n) (dbindO S' F' rec' d n) := by
 unfold dbindO
 refine ah_bind P.len (typeNameO_fin P.good hL (P.lt hn)) (typeNameO_ah P hL hF hn) (fun x1 m1 hm1 km1 em1 => ?_)
 refine ah_bind P.len (need_fin P.good (by simp) (P.lt km1)) (need_ah P _ (by simp) (by decide) km1) (fun x2 m2 hm2 km2 em2 => ?_)
 refine ah_bind P.len (rowO_fin P.good hL (by simp) (fun k hk => conO_fin P.good hL hrec hk) (P.lt km2)) (rowO_ah P hF _ (by simp) (by decide) (fun k hk => conO_fin P.good hL hrec hk) (fun n hn => conO_ah P hL hF hrec hr hn) km2) (fun x3 m3 hm3 km3 em3 => ?_)
 exact ah_ok
theorem datatypesO_ah (P : Pre S S' N) {F F' : Nat} (hL : S.ts.length ≤ F) (hF : F ≤ F') {rec rec' : Nt → Nat → Nat → Out Pb} {d : Nat} (hrec : ∀ nt k, k < S.ts.length → S.may nt k → Fin S 1 k (rec nt d k)) (hr : ∀ nt n, n ≤ N → S.may nt n → Ah (rec nt d n) (rec' nt d n)) (fr : Nat) {n : Nat} (hn : n ≤ N) : Ah (datatypesO S F rec d fr n) (datatypesO S' F' rec' d fr n) := by
 unfold datatypesO
 refine ah_bind P.len (rowO_fin P.good hL (by simp) (fun k hk => dbindO_fin P.good hL hrec hk) (P.lt hn)) (rowO_ah P hF _ (by simp) (by decide) (fun k hk => dbindO_fin P.good hL hrec hk) (fun n hn => dbindO_ah P hL hF hrec hr hn) hn) (fun x1 m1 hm1 km1 em1 => ?_)
 exact ah_ok
theorem specO_ah (P : Pre S S' N) {F F' : Nat} (hL : S.ts.length ≤ F) (hF : F ≤ F') {rec rec' : Nt → Nat → Nat → Out Pb} {d : Nat} (hrec : ∀ nt k, k < S.ts.length → S.may nt k → Fin S 1 k (rec nt d k)) (hr : ∀ nt n, n ≤ N → S.may nt n → Ah (rec nt d n) (rec' nt d n)) {n : Nat} (hn : n ≤ N) : Ah (specO S F rec d n) (specO S' F' rec' d n) := by
 unfold specO
 refine ah_if (P.is hn _ (by simp) (by decide)) (fun h => ?_) (fun _ => ah_if (P.is hn _ (by simp) (by decide)) (fun h => ?_) (fun _ => ah_if (P.is hn _ (by simp) (by decide)) (fun h => ?_) (fun _ => ah_if (P.is hn _ (by simp) (by decide)) (fun h => ?_) (fun _ => ?_))))
 ·refine ah_bind P.len (value_fin P.good (P.lt (P.more hn (by simp) h))) (value_ah P (P.more hn (by simp) h)) (fun x1 m1 hm1 km1 em1 => ?_)
  refine ah_bind P.len (need_fin P.good (by simp) (P.lt km1)) (need_ah P _ (by simp) (by decide) km1) (fun x2 m2 hm2 km2 em2 => ?_)
  refine ah_bind P.len (hrec .ty _ (P.lt km2) trivial) (hr .ty _ km2 trivial) (fun x3 m3 hm3 km3 em3 => ?_)
  exact ah_ok
 ·refine ah_bind P.len (typeNameO_fin P.good hL (P.lt (P.more hn (by simp) h))) (typeNameO_ah P hL hF (P.more hn (by simp) h)) (fun x m hm km em => ah_if (P.is km _ (by simp) (by decide)) (fun h => ?_) (fun _ => ah_ok))
  refine ah_bind P.len (hrec .ty _ (P.lt (P.more km (by simp) h)) trivial) (hr .ty _ (P.more km (by simp) h) trivial) (fun c m2 hm2 km2 em2 => ah_ok)
 ·exact datatypesO_ah P hL hF hrec hr n (P.more hn (by simp) h)
 ·refine ah_bind P.len (take_fin P.good (by decide) (P.lt (P.more hn (by simp) h))) (take_ah P _ (by decide) (by decide) (P.more hn (by simp) h)) (fun x1 m1 hm1 km1 em1 => ?_)
  refine ah_bind P.len (need_fin P.good (by simp) (P.lt km1)) (need_ah P _ (by simp) (by decide) km1) (fun x2 m2 hm2 km2 em2 => ?_)
  refine ah_bind P.len (hrec .sig _ (P.lt km2) trivial) (hr .sig _ km2 trivial) (fun x3 m3 hm3 km3 em3 => ?_)
  exact ah_ok
 ·refine ah_bind P.len (need_fin P.good (by simp) (P.lt hn)) (need_ah P _ (by simp) (by decide) hn) (fun x1 m1 hm1 km1 em1 => ?_)
  refine ah_bind P.len (hrec .sig _ (P.lt km1) trivial) (hr .sig _ km1 trivial) (fun x2 m2 hm2 km2 em2 => ?_)
  exact ah_ok
theorem specsL_ah (P : Pre S S' N) {F F' : Nat} (hL : S.ts.length ≤ F) (hF : F ≤ F') {rec rec' : Nt → Nat → Nat → Out Pb} {d : Nat} (hrec : ∀ nt k, k < S.ts.length → S.may nt k → Fin S 1 k (rec nt d k)) (hr : ∀ nt n, n ≤ N → S.may nt n → Ah (rec nt d n) (rec' nt d n)) : ∀ (f f' : Nat) (acc : List Pb) (n : Nat), f ≤ f' → n ≤ N → Ah (specsL S F rec d f acc n) (specsL S' F' rec' d f' acc n) := by
 intro f
 induction f with
 | zero => intro f' _ n _ _; exact ah_no (fun _ _ e => by cases e)
 | succ f ih =>
  intro f' acc n hf hn
  obtain ⟨q, rfl⟩ : ∃ q, f' = q + 1 := ⟨f' - 1, by omega⟩
  unfold specsL
  rcases Nat.lt_or_ge n N with h | h
  ·refine ah_if (P.is' h _) (fun _ => ah_ok) (fun _ => ah_if (P.is' h _) (fun _ => ih q acc (n + 1) (by omega) h) (fun _ => ?_))
   refine ah_bind P.len (specO_fin P.good hL hrec (P.lt hn)) (specO_ah P hL hF hrec hr hn) (fun b m hm km em => ih q _ m (by omega) km)
  ·have : n = N := by omega
   subst this
   rw [P.isN _ (by simp), P.isN _ (by simp)]
   refine ah_no (fun x m e => ?_)
   have hs := specO_fin P.good hL hrec (P.lt hn)
   simp only [cond_false] at e
   cases hx : specO S F rec d n with
   | ok y k => rw [hx] at hs; have h1 := hs.1; have h2 := hs.2; have := P.len; omega
   | form m => rw [hx] at e; cases e
   | deep m => rw [hx] at e; cases e
   | dry => rw [hx] at e; cases e
theorem bareSigO_ah (P : Pre S S' N) {F F' : Nat} (hL : S.ts.length ≤ F) (hF : F ≤ F') {rec rec' : Nt → Nat → Nat → Out Pb} {d : Nat} (hrec : ∀ nt k, k < S.ts.length → S.may nt k → Fin S 1 k (rec nt d k)) (hr : ∀ nt n, n ≤ N → S.may nt n → Ah (rec nt d n) (rec' nt d n)) {n : Nat} (hn : n ≤ N) : Ah (bareSigO S F rec d n) (bareSigO S' F' rec' d n) := by
 unfold bareSigO
 refine ah_if (P.is hn _ (by simp) (by decide)) (fun h => ?_) (fun _ => ?_)
 ·refine ah_bind P.len (specsL_fin P.good hL hrec F [] (n + 1) (P.lt (P.more hn (by simp) h)) (by omega)) (specsL_ah P hL hF hrec hr F F' [] (n + 1) hF (P.more hn (by simp) h)) (fun l m _ _ _ => ah_ok)
 ·refine ah_bind P.len (take_fin P.good (by decide) (P.lt hn)) (take_ah P _ (by decide) (by decide) hn) (fun x m hm km em => ah_ok)
theorem whereL_ah (P : Pre S S' N) {F F' : Nat} (hL : S.ts.length ≤ F) (hF : F ≤ F') {rec rec' : Nt → Nat → Nat → Out Pb} {d : Nat} (hrec : ∀ nt k, k < S.ts.length → S.may nt k → Fin S 1 k (rec nt d k)) (hr : ∀ nt n, n ≤ N → S.may nt n → Ah (rec nt d n) (rec' nt d n)) (fr : Nat) : ∀ (f f' : Nat) (b : Pb) (n : Nat), f ≤ f' → n ≤ N → Ah (whereL S rec d fr f b n) (whereL S' rec' d fr f' b n) := by
 intro f
 induction f with
 | zero => intro f' _ n _ _; exact ah_no (fun _ _ e => by cases e)
 | succ f ih =>
  intro f' b n hf hn
  obtain ⟨q, rfl⟩ : ∃ q, f' = q + 1 := ⟨f' - 1, by omega⟩
  unfold whereL
  refine ah_if (P.is hn _ (by simp) (by decide)) (fun h => ?_) (fun _ => ah_ok)
  refine ah_bind P.len (need_fin P.good (by simp) (P.lt (P.more hn (by simp) h))) (need_ah P _ (by simp) (by decide) (P.more hn (by simp) h)) (fun x1 m1 hm1 km1 em1 => ?_)
  refine ah_bind P.len (typePath_fin P.good (P.lt km1)) (typePath_ah P km1) (fun x2 m2 hm2 km2 em2 => ?_)
  refine ah_bind P.len (need_fin P.good (by simp) (P.lt km2)) (need_ah P _ (by simp) (by decide) km2) (fun x3 m3 hm3 km3 em3 => ?_)
  refine ah_bind P.len (hrec .ty _ (P.lt km3) trivial) (hr .ty _ km3 trivial) (fun x4 m4 hm4 km4 em4 => ?_)
  exact ih q _ m4 (by omega) km4
theorem sigO_ah (P : Pre S S' N) {F F' : Nat} (hL : S.ts.length ≤ F) (hF : F ≤ F') {rec rec' : Nt → Nat → Nat → Out Pb} {d : Nat} (hrec : ∀ nt k, k < S.ts.length → S.may nt k → Fin S 1 k (rec nt d k)) (hr : ∀ nt n, n ≤ N → S.may nt n → Ah (rec nt d n) (rec' nt d n)) {n : Nat} (hn : n ≤ N) : Ah (sigO S F rec d n) (sigO S' F' rec' d n) := by
 unfold sigO
 refine ah_bind P.len (bareSigO_fin P.good hL hrec (P.lt hn)) (bareSigO_ah P hL hF hrec hr hn) (fun b m hm km em => whereL_ah P hL hF hrec hr n F F' b m hF km)
theorem bareStrO_ah (P : Pre S S' N) {F F' : Nat} (hL : S.ts.length ≤ F) (hF : F ≤ F') {rec rec' : Nt → Nat → Nat → Out Pb} {d : Nat} (hrec : ∀ nt k, k < S.ts.length → S.may nt k → Fin S 1 k (rec nt d k)) (hr : ∀ nt n, n ≤ N → S.may nt n → Ah (rec nt d n) (rec' nt d n)) {n : Nat} (hn : n ≤ N) : Ah (bareStrO S F rec d n) (bareStrO S' F' rec' d n) := by
 unfold bareStrO
 refine ah_if (P.is hn _ (by simp) (by decide)) (fun h => ?_) (fun _ => ah_if (P.and hn _ (by omega) (by omega) _ (by simp) (by decide)) (fun h => ?_) (fun _ => ?_))
 ·refine ah_bindD P.len (decsO_fin P.good hL hrec 1 (P.lt (P.more hn (by simp) h))) (decsO_ah P hL hF hrec hr 1 (P.more hn (by simp) h)) (fun _ => needN P (by simp)) (fun l m hm lm => ?_)
  have km : m ≤ N := Nat.le_of_lt lm
  refine ah_bind P.len (need_fin P.good (by simp) (P.lt km)) (need_ah P _ (by simp) (by decide) km) (fun u m2 hm2 km2 em2 => ah_ok)
 ·simp only [Bool.and_eq_true, beq_iff_eq] at h
  have h1 := P.moreK hn (by omega)
  have h2 := P.more h1 (by simp) h.2
  refine ah_bind P.len (hrec .str _ (P.lt h2) trivial) (hr .str _ h2 trivial) (fun c m2 hm2 km2 em2 => ?_)
  refine ah_bind P.len (need_fin P.good (by simp) (P.lt km2)) (need_ah P _ (by simp) (by decide) km2) (fun u m3 hm3 km3 em3 => ah_ok)
 ·refine ah_bind P.len (path_fin P.good (by decide) (P.lt hn)) (path_ah P _ (by decide) (by decide) hn) (fun p m hm km em => ah_ok)
theorem sealL_ah (P : Pre S S' N) {F F' : Nat} (hL : S.ts.length ≤ F) (hF : F ≤ F') {rec rec' : Nt → Nat → Nat → Out Pb} {d : Nat} (hrec : ∀ nt k, k < S.ts.length → S.may nt k → Fin S 1 k (rec nt d k)) (hr : ∀ nt n, n ≤ N → S.may nt n → Ah (rec nt d n) (rec' nt d n)) (fr : Nat) : ∀ (f f' : Nat) (b : Pb) (n : Nat), f ≤ f' → n ≤ N → Ah (sealL S rec d fr f b n) (sealL S' rec' d fr f' b n) := by
 intro f
 induction f with
 | zero => intro f' _ n _ _; exact ah_no (fun _ _ e => by cases e)
 | succ f ih =>
  intro f' b n hf hn
  obtain ⟨q, rfl⟩ : ∃ q, f' = q + 1 := ⟨f' - 1, by omega⟩
  unfold sealL
  rw [P.colon hn]
  refine ah_if rfl (fun _ => ah_ok) (fun h => ?_)
  have h2 := (colon_fin P.good (P.lt hn)).2.2.1 (by simpa using h)
  have h1 : n + 1 ≤ N := by have := (colon_fin P.good (P.lt hn)).1; rw [h2] at this; have := P.len; omega
  refine ah_bind P.len (hrec .sig _ (P.lt h1) trivial) (hr .sig _ h1 trivial) (fun c m hm km em => ih q _ m (by omega) km)
theorem strO_ah (P : Pre S S' N) {F F' : Nat} (hL : S.ts.length ≤ F) (hF : F ≤ F') {rec rec' : Nt → Nat → Nat → Out Pb} {d : Nat} (hrec : ∀ nt k, k < S.ts.length → S.may nt k → Fin S 1 k (rec nt d k)) (hr : ∀ nt n, n ≤ N → S.may nt n → Ah (rec nt d n) (rec' nt d n)) {n : Nat} (hn : n ≤ N) : Ah (strO S F rec d n) (strO S' F' rec' d n) := by
 unfold strO
 refine ah_bind P.len (bareStrO_fin P.good hL hrec (P.lt hn)) (bareStrO_ah P hL hF hrec hr hn) (fun b m hm km em => sealL_ah P hL hF hrec hr n F F' b m hF km)
theorem bodyO_ah (P : Pre S S' N) {F F' : Nat} (hL : S.ts.length ≤ F) (hF : F ≤ F') {rec rec' : Nt → Nat → Nat → Out Pb} {d : Nat} (hrec : ∀ nt k, k < S.ts.length → S.may nt k → Fin S 1 k (rec nt d k)) (hr : ∀ nt n, n ≤ N → S.may nt n → Ah (rec nt d n) (rec' nt d n)) {n : Nat} (hn : n ≤ N) : Ah (bodyO S rec d n) (bodyO S' rec' d n) := by
 unfold bodyO
 rw [P.colon hn]
 refine ah_bind P.len (a := 0) (n := n) (fin_if (fun _ => fin_ok (Nat.le_refl _) (P.lt hn)) (fun h => ?_)) (ah_if rfl (fun _ => ah_ok) (fun h => ?_)) (fun l m hm km em => ?_)
 ·have h2 := (colon_fin P.good (P.lt hn)).2.2.1 (by simpa using h)
  have h1 : n + 1 ≤ N := by have := (colon_fin P.good (P.lt hn)).1; rw [h2] at this; have := P.len; omega
  exact (fin_bind (hrec .sig _ (P.lt h1) trivial) (b := 0) (c := 0) (by omega) (fun c m4 hm4 hl4 => fin_ok (by omega) hl4)).at (by omega)
 ·have h2 := (colon_fin P.good (P.lt hn)).2.2.1 (by simpa using h)
  have h1 : n + 1 ≤ N := by have := (colon_fin P.good (P.lt hn)).1; rw [h2] at this; have := P.len; omega
  refine ah_bind P.len (hrec .sig _ (P.lt h1) trivial) (hr .sig _ h1 trivial) (fun c m hm km em => ah_ok)
 ·refine ah_bind P.len (need_fin P.good (by simp) (P.lt km)) (need_ah P _ (by simp) (by decide) km) (fun x1 m1 hm1 km1 em1 => ?_)
  refine ah_bind P.len (hrec .str _ (P.lt km1) trivial) (hr .str _ km1 trivial) (fun x2 m2 hm2 km2 em2 => ?_)
  exact ah_ok
theorem structureO_ah (P : Pre S S' N) {F F' : Nat} (hL : S.ts.length ≤ F) (hF : F ≤ F') {rec rec' : Nt → Nat → Nat → Out Pb} {d : Nat} (hrec : ∀ nt k, k < S.ts.length → S.may nt k → Fin S 1 k (rec nt d k)) (hr : ∀ nt n, n ≤ N → S.may nt n → Ah (rec nt d n) (rec' nt d n)) (fr : Nat) {n : Nat} (hn : n ≤ N) : Ah (structureO S rec d fr n) (structureO S' rec' d fr n) := by
 unfold structureO
 refine ah_bind P.len (take_fin P.good (by decide) (P.lt hn)) (take_ah P _ (by decide) (by decide) hn) (fun x1 m1 hm1 km1 em1 => ?_)
 refine ah_bind P.len (bodyO_fin P.good hL hrec (P.lt km1)) (bodyO_ah P hL hF hrec hr km1) (fun x2 m2 hm2 km2 em2 => ?_)
 exact ah_ok
theorem functorO_ah (P : Pre S S' N) {F F' : Nat} (hL : S.ts.length ≤ F) (hF : F ≤ F') {rec rec' : Nt → Nat → Nat → Out Pb} {d : Nat} (hrec : ∀ nt k, k < S.ts.length → S.may nt k → Fin S 1 k (rec nt d k)) (hr : ∀ nt n, n ≤ N → S.may nt n → Ah (rec nt d n) (rec' nt d n)) (fr : Nat) {n : Nat} (hn : n ≤ N) : Ah (functorO S rec d fr n) (functorO S' rec' d fr n) := by
 unfold functorO
 refine ah_bind P.len (take_fin P.good (by decide) (P.lt hn)) (take_ah P _ (by decide) (by decide) hn) (fun x1 m1 hm1 km1 em1 => ?_)
 refine ah_bind P.len (need_fin P.good (by simp) (P.lt km1)) (need_ah P _ (by simp) (by decide) km1) (fun x2 m2 hm2 km2 em2 => ?_)
 refine ah_bind P.len (take_fin P.good (by decide) (P.lt km2)) (take_ah P _ (by decide) (by decide) km2) (fun x3 m3 hm3 km3 em3 => ?_)
 refine ah_bind P.len (need_fin P.good (by simp) (P.lt km3)) (need_ah P _ (by simp) (by decide) km3) (fun x4 m4 hm4 km4 em4 => ?_)
 refine ah_bind P.len (hrec .sig _ (P.lt km4) trivial) (hr .sig _ km4 trivial) (fun x5 m5 hm5 km5 em5 => ?_)
 refine ah_bind P.len (need_fin P.good (by simp) (P.lt km5)) (need_ah P _ (by simp) (by decide) km5) (fun x6 m6 hm6 km6 em6 => ?_)
 refine ah_bind P.len (bodyO_fin P.good hL hrec (P.lt km6)) (bodyO_ah P hL hF hrec hr km6) (fun x7 m7 hm7 km7 em7 => ?_)
 exact ah_ok
theorem funL_ah (P : Pre S S' N) {F F' : Nat} (hL : S.ts.length ≤ F) (hF : F ≤ F') {rec rec' : Nt → Nat → Nat → Out Pb} {d : Nat} (hrec : ∀ nt k, k < S.ts.length → S.may nt k → Fin S 1 k (rec nt d k)) (hr : ∀ nt n, n ≤ N → S.may nt n → Ah (rec nt d n) (rec' nt d n)) : ∀ (f f' : Nat) (acc : List Pb) (n : Nat), f ≤ f' → n ≤ N → Ah (funL S F rec d f acc n) (funL S' F' rec' d f' acc n) := by
 intro f
 induction f with
 | zero => intro f' _ n _ _; exact ah_no (fun _ _ e => by cases e)
 | succ f ih =>
  intro f' acc n hf hn
  obtain ⟨q, rfl⟩ : ∃ q, f' = q + 1 := ⟨f' - 1, by omega⟩
  unfold funL
  refine ah_if (P.begins hn _ (by simp) (by decide)) (fun _ => ?_) (fun _ => ah_ok)
  refine ah_bind P.len (atomicPatO_fin P.good hL hrec (P.lt hn)) (atomicPatO_ah P hL hF hrec hr hn) (fun b m hm km em => ih q _ m (by omega) km)
theorem functionO_ah (P : Pre S S' N) {F F' : Nat} (hL : S.ts.length ≤ F) (hF : F ≤ F') {rec rec' : Nt → Nat → Nat → Out Pb} {d : Nat} (hrec : ∀ nt k, k < S.ts.length → S.may nt k → Fin S 1 k (rec nt d k)) (hr : ∀ nt n, n ≤ N → S.may nt n → Ah (rec nt d n) (rec' nt d n)) {n : Nat} (hn : n ≤ N) : Ah (functionO S F rec d n) (functionO S' F' rec' d n) := by
 unfold functionO
 refine ah_bind P.len (value_fin P.good (P.lt hn)) (value_ah P hn) (fun x m hm km em => ?_)
 refine ah_bind P.len (atomicPatO_fin P.good hL hrec (P.lt km)) (atomicPatO_ah P hL hF hrec hr km) (fun b m2 hm2 km2 em2 => ?_)
 refine ah_bind P.len (funL_fin P.good hL hrec F [b] m2 (P.lt km2) (by omega)) (funL_ah P hL hF hrec hr F F' [b] m2 hF km2) (fun l m3 hm3 km3 _ => ?_)
 refine ah_bind P.len (need_fin P.good (by simp) (P.lt km3)) (need_ah P _ (by simp) (by decide) km3) (fun x1 m1 hm1 km1 em1 => ?_)
 refine ah_bind P.len (hrec .exp _ (P.lt km1) trivial) (hr .exp _ km1 trivial) (fun x2 m2 hm2 km2 em2 => ?_)
 exact ah_ok
theorem localO_ah (P : Pre S S' N) {F F' : Nat} (hL : S.ts.length ≤ F) (hF : F ≤ F') {rec rec' : Nt → Nat → Nat → Out Pb} {d : Nat} (hrec : ∀ nt k, k < S.ts.length → S.may nt k → Fin S 1 k (rec nt d k)) (hr : ∀ nt n, n ≤ N → S.may nt n → Ah (rec nt d n) (rec' nt d n)) (fr a : Nat) {n : Nat} (hn : n ≤ N) : Ah (localO S F rec d fr a n) (localO S' F' rec' d fr a n) := by
 unfold localO
 refine ah_bindD P.len (withinO_fin P.good hL hrec a (P.lt hn)) (withinO_ah P hL hF hrec hr a hn) (fun _ => needN P (by simp)) (fun x m hm lm => ?_)
 have km : m ≤ N := Nat.le_of_lt lm
 refine ah_bind P.len (need_fin P.good (by simp) (P.lt km)) (need_ah P _ (by simp) (by decide) km) (fun u m2 hm2 km2 em2 => ?_)
 refine ah_bindD P.len (withinO_fin P.good hL hrec a (P.lt km2)) (withinO_ah P hL hF hrec hr a km2) (fun _ => needN P (by simp)) (fun y m3 hm3 lm3 => ?_)
 have km3 : m3 ≤ N := Nat.le_of_lt lm3
 refine ah_bind P.len (need_fin P.good (by simp) (P.lt km3)) (need_ah P _ (by simp) (by decide) km3) (fun u m4 hm4 km4 em4 => ah_ok)
theorem decO_ah (P : Pre S S' N) {F F' : Nat} (hL : S.ts.length ≤ F) (hF : F ≤ F') {rec rec' : Nt → Nat → Nat → Out Pb} {d : Nat} (hrec : ∀ nt k, k < S.ts.length → S.may nt k → Fin S 1 k (rec nt d k)) (hr : ∀ nt n, n ≤ N → S.may nt n → Ah (rec nt d n) (rec' nt d n)) (a : Nat) {n : Nat} (hn : n ≤ N) (h1 : n + 1 ≤ N) : Ah (decO S F rec d a n) (decO S' F' rec' d a n) := by
 unfold decO
 refine ah_if (P.is hn _ (by simp) (by decide)) (fun h => ?_) (fun _ => ah_if (P.is hn _ (by simp) (by decide)) (fun h => ?_) (fun _ => ah_if (P.is hn _ (by simp) (by decide)) (fun h => ?_) (fun _ => ah_if (P.is hn _ (by simp) (by decide)) (fun h => ?_) (fun _ => ah_if (P.is hn _ (by simp) (by decide)) (fun h => ?_) (fun _ => ah_if (P.is hn _ (by simp) (by decide)) (fun h => ?_) (fun _ => ah_if (P.is hn _ (by simp) (by decide)) (fun h => ?_) (fun _ => ah_if (P.is hn _ (by simp) (by decide)) (fun h => ?_) (fun _ => ?_))))))))
 ·refine ah_bind P.len (hrec .pat _ (P.lt h1) trivial) (hr .pat _ h1 trivial) (fun x1 m1 hm1 km1 em1 => ?_)
  refine ah_bind P.len (need_fin P.good (by simp) (P.lt km1)) (need_ah P _ (by simp) (by decide) km1) (fun x2 m2 hm2 km2 em2 => ?_)
  refine ah_bind P.len (hrec .exp _ (P.lt km2) trivial) (hr .exp _ km2 trivial) (fun x3 m3 hm3 km3 em3 => ?_)
  exact ah_ok
 ·refine ah_bind P.len (rowO_fin P.good hL (by simp) (fun k hk => functionO_fin P.good hL hrec hk) (P.lt h1)) (rowO_ah P hF _ (by simp) (by decide) (fun k hk => functionO_fin P.good hL hrec hk) (fun n hn => functionO_ah P hL hF hrec hr hn) h1) (fun x1 m1 hm1 km1 em1 => ?_)
  exact ah_ok
 ·refine ah_bind P.len (typeNameO_fin P.good hL (P.lt h1)) (typeNameO_ah P hL hF h1) (fun x1 m1 hm1 km1 em1 => ?_)
  refine ah_bind P.len (need_fin P.good (by simp) (P.lt km1)) (need_ah P _ (by simp) (by decide) km1) (fun x2 m2 hm2 km2 em2 => ?_)
  refine ah_bind P.len (hrec .ty _ (P.lt km2) trivial) (hr .ty _ km2 trivial) (fun x3 m3 hm3 km3 em3 => ?_)
  exact ah_ok
 ·exact datatypesO_ah P hL hF hrec hr n h1
 ·exact structureO_ah P hL hF hrec hr n h1
 ·refine ah_bind P.len (take_fin P.good (by decide) (P.lt h1)) (take_ah P _ (by decide) (by decide) h1) (fun x1 m1 hm1 km1 em1 => ?_)
  refine ah_bind P.len (need_fin P.good (by simp) (P.lt km1)) (need_ah P _ (by simp) (by decide) km1) (fun x2 m2 hm2 km2 em2 => ?_)
  refine ah_bind P.len (hrec .sig _ (P.lt km2) trivial) (hr .sig _ km2 trivial) (fun x3 m3 hm3 km3 em3 => ?_)
  exact ah_ok
 ·exact functorO_ah P hL hF hrec hr n h1
 ·refine ah_bind P.len (path_fin P.good (by decide) (P.lt h1)) (path_ah P _ (by decide) (by decide) h1) (fun x1 m1 hm1 km1 em1 => ?_)
  exact ah_ok
 ·exact localO_ah P hL hF hrec hr n a h1
theorem parts_ah (P : Pre S S' N) : ∀ (f f' : Nat), f ≤ f' → ∀ nt d n, d ≤ 256 → n ≤ N → S.may nt n → S.ts.length + 257 ≤ f + d → Ah (parts S f nt d n) (parts S' f' nt d n) := by
 intro f
 induction f with
 | zero => intro f' _ nt d n hd hn _ hl; exact ah_no (fun _ _ e => by cases e)
 | succ f ih =>
  intro f' hf nt d n hd hn hmay hl
  obtain ⟨q, rfl⟩ : ∃ q, f' = q + 1 := ⟨f' - 1, by omega⟩
  unfold parts
  refine ah_if rfl (fun _ => ah_no (fun _ _ e => by cases e)) (fun h => ?_)
  have h256 : d ≠ 256 := by simpa using h
  have hrec : ∀ nt k, k < S.ts.length → S.may nt k → Fin S 1 k (parts S f nt (d + 1) k) := fun nt k hk hm => parts_fin P.good f nt (d + 1) k (by omega) hk hm (by omega)
  have hL : S.ts.length ≤ f := by omega
  have hq : f ≤ q := by omega
  have hr : ∀ nt n, n ≤ N → S.may nt n → Ah (parts S f nt (d + 1) n) (parts S' q nt (d + 1) n) := fun nt n hn hm => ih q hq nt (d + 1) n (by omega) hn hm (by omega)
  cases nt with
  | exp => exact expO_ah P hL hq hrec hr hn
  | pat => exact patO_ah P hL hq hrec hr hn
  | ty => exact tyO_ah P hL hq hrec hr hn
  | sig => exact sigO_ah P hL hq hrec hr hn
  | str => exact strO_ah P hL hq hrec hr hn
  | dec a => exact decO_ah P hL hq hrec hr a hn (by have := declares_more P.good (P.lt hn) hmay; have := P.len; omega)
end
end Go.Proofs.YtifoodfbgghplaaGreatDoor

namespace Go.Proofs.YtifoodfbgghplaaGreatDoor
open Go.RowKit
set_option maxRecDepth 20000
set_option linter.unusedVariables false
set_option linter.unusedSimpArgs false

theorem decsL_acc (S : Src) (rec : Nt → Nat → Nat → Out Pb) (d a : Nat) (p : List Pb) : ∀ (f : Nat) (acc : List Pb) (n : Nat), decsL S rec d a f (p ++ acc) n = (decsL S rec d a f acc n).bind fun l m => .ok (p ++ l) m := by
 intro f
 induction f with
 | zero => intro acc n; rfl
 | succ f ih =>
  intro acc n
  unfold decsL
  cases S.is n [59]
  ·cases declares S a n
   ·rfl
   ·simp only [cond_false, cond_true]
    cases rec (.dec a) d n with
    | ok b m => simp only [Out.bind]; rw [List.append_assoc, ih]; rfl
    | form m => rfl
    | deep m => rfl
    | dry => rfl
  ·exact ih acc (n + 1)
section
variable {S S' : Src} {N : Nat}
theorem decsL_join (P : Pre S S' N) {F : Nat} (hL : S.ts.length ≤ F) {rec rec' : Nt → Nat → Nat → Out Pb} {d : Nat} (hrec : ∀ nt k, k < S.ts.length → S.may nt k → Fin S 1 k (rec nt d k)) (hr : ∀ nt n, n ≤ N → S.may nt n → Ah (rec nt d n) (rec' nt d n)) (a K : Nat) (l : List Pb) : ∀ (f f' : Nat) (acc : List Pb) (n : Nat), n ≤ N → K + N + 1 ≤ f' + n → decsL S rec d a f acc n = .ok l N → ∃ q, K ≤ q ∧ decsL S' rec' d a f' acc n = decsL S' rec' d a q l (N + 1) := by
 intro f
 induction f with
 | zero => intro f' acc n hn hK e; cases e
 | succ f ih =>
  intro f' acc n hn hK e
  obtain ⟨q, rfl⟩ : ∃ q, f' = q + 1 := ⟨f' - 1, by omega⟩
  rcases Nat.lt_or_ge n N with h | h
  ·unfold decsL at e
   rw [show decsL S' rec' d a (q + 1) acc n = (bif S'.is n [59] then decsL S' rec' d a q acc (n + 1) else bif declares S' a n then (rec' (.dec a) d n).bind fun b n1 => decsL S' rec' d a q (acc ++ [b]) n1 else .ok acc n) from rfl]
   rw [P.is' h, P.declares hn a]
   cases h1 : S.is n [59]
   ·rw [h1] at e
    cases h2 : declares S a n
    ·rw [h2] at e
     simp only [cond_false] at e
     injection e with e1 e2
     omega
    ·rw [h2] at e
     simp only [cond_false, cond_true] at e ⊢
     have hfin := hrec (.dec a) n (P.lt hn) h2
     cases hx : rec (.dec a) d n with
     | ok b m =>
      rw [hx] at e hfin
      rw [hr (.dec a) n hn h2 b m hx]
      have h3 := hfin.1
      have h4 := hfin.2
      have h5 := P.len
      exact ih q _ m (by omega) (by omega) e
     | form m => rw [hx] at e; cases e
     | deep m => rw [hx] at e; cases e
     | dry => rw [hx] at e; cases e
   ·rw [h1] at e
    exact ih q acc (n + 1) h (by omega) e
  ·have : n = N := by omega
   subst this
   have hd : declares S a n = false := by
    cases h2 : declares S a n
    ·rfl
    ·have := declares_more P.good (P.lt hn) h2
     have := P.len
     omega
   unfold decsL at e
   rw [P.isN _ (by simp), hd] at e
   simp only [cond_false] at e
   injection e with e1 e2
   subst e1
   refine ⟨q, by omega, ?_⟩
   rw [show decsL S' rec' d a (q + 1) acc n = (bif S'.is n [59] then decsL S' rec' d a q acc (n + 1) else bif declares S' a n then (rec' (.dec a) d n).bind fun b n1 => decsL S' rec' d a q (acc ++ [b]) n1 else .ok acc n) from rfl]
   have : S'.is n [59] = true := by unfold Src.is; rw [P.sto]; rfl
   rw [this]; rfl
/-- Two files with a semicolon between them are one file: its rows stand one behind the other. -/
theorem whole_join {S1 S2 S : Src} {N M : Nat} (P : Pre S1 S N) (H : Sh S2 S (N + 1)) (hlen : S.ts.length = N + 1 + S2.ts.length) {b1 b2 : Pb}
  (h1 : wholeO S1 (fileS S1) = .ok b1 N) (h2 : wholeO S2 (fileS S2) = .ok b2 M) :
  ∃ l1 l2, b1 = node 1 0 N [] l1 ∧ b2 = node 1 0 M [] l2 ∧ wholeO S (fileS S) = .ok (node 1 0 (M + (N + 1)) [] (l1 ++ l2.map (Pb.on (N + 1)))) (M + (N + 1)) := by
 have out : ∀ {T : Src} {b : Pb} {m : Nat}, wholeO T (fileS T) = .ok b m → ∃ l, decsL T (parts T (fuel T)) 0 2 (fuel T) [] 0 = .ok l m ∧ b = node 1 0 m [] l ∧ T.kd m = 0 := by
  intro T b m h
  unfold wholeO fileS fileO decsO at h
  cases hx : decsL T (parts T (fuel T)) 0 2 (fuel T) [] 0 with
  | ok l k =>
   rw [hx] at h
   simp only [Out.bind] at h
   cases hk : (T.kd k == 0)
   ·rw [hk] at h; cases h
   ·rw [hk] at h
    simp only [cond_true] at h
    injection h with e1 e2
    subst e2
    exact ⟨l, rfl, e1.symm, beq_iff_eq.1 hk⟩
  | form k => rw [hx] at h; cases h
  | deep k => rw [hx] at h; cases h
  | dry => rw [hx] at h; cases h
 obtain ⟨l1, d1, e1, k1⟩ := out h1
 obtain ⟨l2, d2, e2, k2⟩ := out h2
 refine ⟨l1, l2, e1, e2, ?_⟩
 have hf1 : fuel S1 ≤ fuel S := by unfold fuel; have := P.len; omega
 have hf2 : fuel S2 ≤ fuel S := by unfold fuel; omega
 obtain ⟨q, hq, ej⟩ := decsL_join P (F := fuel S1) (by unfold fuel; omega) (rec := parts S1 (fuel S1)) (rec' := parts S (fuel S)) (d := 0)
  (fun nt k hk hm => parts_fin P.good (fuel S1) nt 0 k (by omega) hk hm (by unfold fuel; omega))
  (fun nt n hn hm => parts_ah P (fuel S1) (fuel S) hf1 nt 0 n (by omega) hn hm (by unfold fuel; omega)) 2 (fuel S2) l1 (fuel S1) (fuel S) [] 0 (by omega) (by unfold fuel; omega) d1
 have hs := decsL_on H hf2 (rec := parts S2 (fuel S2)) (rec' := parts S (fuel S)) (d := 0) (fun nt n => parts_on H (fuel S2) (fuel S) hf2 nt 0 n) 2 (fuel S2) q [] 0 hq (by rw [d2]; intro e; cases e)
 rw [d2, Nat.zero_add] at hs
 have ha := decsL_acc S (parts S (fuel S)) 0 2 l1 q [] (N + 1)
 rw [List.append_nil] at ha
 unfold wholeO fileS fileO decsO
 rw [ej, ha]
 rw [show ([] : List Pb).map (Pb.on (N + 1)) = [] from rfl] at hs
 rw [hs]
 simp only [Out.on, Out.bind]
 rw [H.kd, k2]
 rfl
end
end Go.Proofs.YtifoodfbgghplaaGreatDoor

namespace Go.Proofs.YtifoodfbgghplaaGreatDoor
open Go.RowKit
set_option maxRecDepth 20000
set_option linter.unusedVariables false
set_option linter.unusedSimpArgs false

/-- A file, and then a text whatever: the second one's outcome, so many tokens on. -/
theorem file_join {S1 S2 S : Src} {N : Nat} (P : Pre S1 S N) (H : Sh S2 S (N + 1)) (hlen : S.ts.length = N + 1 + S2.ts.length) {b1 : Pb} (g2 : S2.Good) (hp : 0 < S2.ts.length)
  (h1 : wholeO S1 (fileS S1) = .ok b1 N) :
  ∃ l1, b1 = node 1 0 N [] l1 ∧ decsO S (fuel S) (parts S (fuel S)) 0 2 0 = ((decsO S2 (fuel S2) (parts S2 (fuel S2)) 0 2 0).on (N + 1) (List.map (Pb.on (N + 1)))).bind fun l m => .ok (l1 ++ l) m := by
 obtain ⟨l1, d1, e1⟩ : ∃ l, decsL S1 (parts S1 (fuel S1)) 0 2 (fuel S1) [] 0 = .ok l N ∧ b1 = node 1 0 N [] l := by
  unfold wholeO fileS fileO decsO at h1
  cases hx : decsL S1 (parts S1 (fuel S1)) 0 2 (fuel S1) [] 0 with
  | ok l k =>
   rw [hx] at h1
   simp only [Out.bind] at h1
   cases hk : (S1.kd k == 0)
   ·rw [hk] at h1; cases h1
   ·rw [hk] at h1
    simp only [cond_true] at h1
    injection h1 with e1 e2
    subst e2
    exact ⟨l, rfl, e1.symm⟩
  | form k => rw [hx] at h1; cases h1
  | deep k => rw [hx] at h1; cases h1
  | dry => rw [hx] at h1; cases h1
 refine ⟨l1, e1, ?_⟩
 have hf1 : fuel S1 ≤ fuel S := by unfold fuel; have := P.len; omega
 have hf2 : fuel S2 ≤ fuel S := by unfold fuel; omega
 obtain ⟨q, hq, ej⟩ := decsL_join P (F := fuel S1) (by unfold fuel; omega) (rec := parts S1 (fuel S1)) (rec' := parts S (fuel S)) (d := 0)
  (fun nt k hk hm => parts_fin P.good (fuel S1) nt 0 k (by omega) hk hm (by unfold fuel; omega))
  (fun nt n hn hm => parts_ah P (fuel S1) (fuel S) hf1 nt 0 n (by omega) hn hm (by unfold fuel; omega)) 2 (fuel S2) l1 (fuel S1) (fuel S) [] 0 (by omega) (by unfold fuel; omega) d1
 have hnd : decsL S2 (parts S2 (fuel S2)) 0 2 (fuel S2) [] 0 ≠ .dry :=
  (decsO_fin g2 (F := fuel S2) (by unfold fuel; omega) (rec := parts S2 (fuel S2)) (d := 0) (fun nt k hk hm => parts_fin g2 (fuel S2) nt 0 k (by omega) hk hm (by unfold fuel; omega)) 2 hp).nd
 have hs := decsL_on H hf2 (rec := parts S2 (fuel S2)) (rec' := parts S (fuel S)) (d := 0) (fun nt n => parts_on H (fuel S2) (fuel S) hf2 nt 0 n) 2 (fuel S2) q [] 0 hq hnd
 rw [Nat.zero_add] at hs
 have ha := decsL_acc S (parts S (fuel S)) 0 2 l1 q [] (N + 1)
 rw [List.append_nil] at ha
 unfold decsO
 rw [ej, ha, ← hs]
 rfl
theorem form_join {S1 S2 S : Src} {N M : Nat} (P : Pre S1 S N) (H : Sh S2 S (N + 1)) (hlen : S.ts.length = N + 1 + S2.ts.length) {b1 : Pb} (g2 : S2.Good) (hp : 0 < S2.ts.length)
  (h1 : wholeO S1 (fileS S1) = .ok b1 N) (h2 : wholeO S2 (fileS S2) = .form M) : wholeO S (fileS S) = .form (M + (N + 1)) := by
 obtain ⟨l1, _, h⟩ := file_join P H hlen g2 hp h1
 unfold wholeO fileS fileO at h2 ⊢
 rw [h]
 cases hx : decsO S2 (fuel S2) (parts S2 (fuel S2)) 0 2 0 with
 | ok l k =>
  rw [hx] at h2
  simp only [Out.bind, Out.on] at h2 ⊢
  rw [H.kd]
  cases hk : (S2.kd k == 0)
  ·rw [hk] at h2; simp only [cond_false] at h2 ⊢; injection h2 with e; rw [e]
  ·rw [hk] at h2; cases h2
 | form k => rw [hx] at h2; simp only [Out.bind, Out.on] at h2 ⊢; injection h2 with e; rw [e]
 | deep k => rw [hx] at h2; cases h2
 | dry => rw [hx] at h2; cases h2
theorem deep_join {S1 S2 S : Src} {N M : Nat} (P : Pre S1 S N) (H : Sh S2 S (N + 1)) (hlen : S.ts.length = N + 1 + S2.ts.length) {b1 : Pb} (g2 : S2.Good) (hp : 0 < S2.ts.length)
  (h1 : wholeO S1 (fileS S1) = .ok b1 N) (h2 : wholeO S2 (fileS S2) = .deep M) : wholeO S (fileS S) = .deep (M + (N + 1)) := by
 obtain ⟨l1, _, h⟩ := file_join P H hlen g2 hp h1
 unfold wholeO fileS fileO at h2 ⊢
 rw [h]
 cases hx : decsO S2 (fuel S2) (parts S2 (fuel S2)) 0 2 0 with
 | ok l k =>
  rw [hx] at h2
  simp only [Out.bind] at h2
  cases hk : (S2.kd k == 0) <;> rw [hk] at h2 <;> cases h2
 | form k => rw [hx] at h2; cases h2
 | deep k => rw [hx] at h2; simp only [Out.bind, Out.on] at h2 ⊢; injection h2 with e; rw [e]
 | dry => rw [hx] at h2; cases h2
end Go.Proofs.YtifoodfbgghplaaGreatDoor

namespace Go.Proofs.YtifoodfbgghplaaGreatDoor
open Go.RowKit
set_option maxRecDepth 20000
set_option linter.unusedVariables false
set_option linter.unusedSimpArgs false

theorem semi_words : wordsT ⟨#[59]⟩ = [⟨11, 0, 1⟩, ⟨0, 1, 1⟩] := by kernel_rfl
theorem semi_first : (firstN ⟨#[59]⟩).2 = 0 := by kernel_rfl
theorem ext_list (s : ByteArray) (a e : Nat) : (s.extract a e).data.toList = (s.data.toList.take e).drop a := by
 rw [ByteArray.data_extract, Array.toList_extract, List.extract_eq_take_drop, List.drop_take]
theorem bytes_ext {s t : ByteArray} (h : s.data.toList = t.data.toList) : s = t := by
 cases s; cases t; simp only at h; congr 1; exact Array.ext' h
theorem ext_left {s u : ByteArray} {r : List UInt8} (h : u.data.toList = s.data.toList ++ r) {a e : Nat} (he : e ≤ s.size) : u.extract a e = s.extract a e := by
 apply bytes_ext
 rw [ext_list, ext_list, h, List.take_append_of_le_length (by rw [data_len]; exact he)]
theorem ext_right {t u : ByteArray} {l : List UInt8} (h : u.data.toList = l ++ t.data.toList) (a e : Nat) : u.extract (a + l.length) (e + l.length) = t.extract a e := by
 apply bytes_ext
 rw [ext_list, ext_list, h, Nat.add_comm e, List.take_length_add_append, Nat.add_comm a, List.drop_length_add_append]
/-- The words of two texts with a semicolon on a line of its own between them. -/
theorem words_joined (s t u : ByteArray) (hu : u.data.toList = s.data.toList ++ (10 :: 59 :: 10 :: t.data.toList)) (h : (firstN s).2 = 0) :
  ∃ A, wordsT s = A ++ [⟨0, s.size, s.size⟩] ∧ wordsT u = A ++ ⟨11, s.size + 1, s.size + 2⟩ :: (wordsT t).map (shiftT (s.size + 3)) := by
 obtain ⟨A, h1, h2⟩ := words_parted s ⟨⟨59 :: 10 :: t.data.toList⟩⟩ u hu h
 obtain ⟨B, h3, h4⟩ := words_parted ⟨#[59]⟩ t ⟨⟨59 :: 10 :: t.data.toList⟩⟩ rfl semi_first
 refine ⟨A, h1, ?_⟩
 have hB : B = [⟨11, 0, 1⟩] := by
  rw [semi_words] at h3
  have := congrArg List.dropLast h3
  simpa using this.symm
 rw [h2, h4, hB]
 congr 1
 simp only [List.cons_append, List.nil_append, List.map_cons, List.map_map]
 congr 1
 ·simp only [shiftT]; congr 1 <;> omega
 ·apply List.map_congr_left
  intro x _
  simp only [Function.comp, shiftT]
  have : (⟨#[59]⟩ : ByteArray).size = 1 := rfl
  rw [this]
  congr 1 <;> omega
theorem pre_joined {S1 S : Src} (g : S1.Good) (t : ByteArray) (hs : S1.ts = wordsT S1.s) (hS : S.ts = wordsT S.s) (hu : S.s.data.toList = S1.s.data.toList ++ (10 :: 59 :: 10 :: t.data.toList)) (h : (firstN S1.s).2 = 0) : Pre S1 S (S1.ts.length - 1) := by
 obtain ⟨A, h1, h2⟩ := words_joined S1.s t S.s hu h
 rw [← hs] at h1
 rw [← hS] at h2
 have hl : S1.ts.length - 1 = A.length := by rw [h1]; simp
 rw [hl]
 have a1 : ∀ i, i < A.length → S1.ts[i]? = A[i]? := fun i hi => by rw [h1, List.getElem?_append_left hi]
 have a2 : ∀ i, i < A.length → S.ts[i]? = A[i]? := fun i hi => by rw [h2, List.getElem?_append_left hi]
 have n1 : S1.ts[A.length]? = some ⟨0, S1.s.size, S1.s.size⟩ := by rw [h1]; simp
 have n2 : S.ts[A.length]? = some ⟨11, S1.s.size + 1, S1.s.size + 2⟩ := by rw [h2]; simp
 refine ⟨g, by rw [h1]; simp, by rw [h2]; simp, ?_, ?_, ?_, ?_, ?_, ?_⟩
 ·intro i hi; unfold Src.kd; rw [a1 i hi, a2 i hi]
 ·intro i hi
  unfold Src.tx
  rw [a1 i hi, a2 i hi, List.getElem?_eq_getElem hi]
  have hm : A[i] ∈ S1.ts := by rw [h1]; exact List.mem_append_left _ (List.getElem_mem hi)
  exact ext_left hu (g.inside _ hm).2
 ·unfold Src.kd; rw [n1]
 ·unfold Src.tx
  rw [n1]
  simp only
  rw [ext_list]
  apply List.drop_eq_nil_of_le
  rw [List.length_take]
  omega
 ·unfold Src.kd; rw [n2]
 ·unfold Src.tx
  rw [n2]
  simp only
  rw [ext_list, hu, show S1.s.size + 2 = S1.s.data.toList.length + 2 by rw [data_len], List.take_length_add_append, show S1.s.size + 1 = S1.s.data.toList.length + 1 by rw [data_len], List.drop_length_add_append]
  rfl
theorem sh_joined {S1 S2 S : Src} (h1s : S1.ts = wordsT S1.s) (h2s : S2.ts = wordsT S2.s) (hS : S.ts = wordsT S.s) (hu : S.s.data.toList = S1.s.data.toList ++ (10 :: 59 :: 10 :: S2.s.data.toList)) (h : (firstN S1.s).2 = 0) :
  Sh S2 S (S1.ts.length - 1 + 1) ∧ S.ts.length = S1.ts.length - 1 + 1 + S2.ts.length ∧ ∀ n, n < S2.ts.length → S.pl (n + (S1.ts.length - 1 + 1)) = S2.pl n + S1.s.size + 3 := by
 obtain ⟨A, h1, h2⟩ := words_joined S1.s S2.s S.s hu h
 rw [← h1s] at h1
 rw [← hS, ← h2s] at h2
 have hl : S1.ts.length - 1 = A.length := by rw [h1]; simp
 rw [hl]
 have at_ : ∀ i, S.ts[i + (A.length + 1)]? = (S2.ts[i]?).map (shiftT (S1.s.size + 3)) := fun i => by
  rw [h2, show i + (A.length + 1) = A.length + (i + 1) by omega, List.getElem?_append_right (by omega), Nat.add_sub_cancel_left, List.getElem?_cons_succ, List.getElem?_map]
 have hu' : S.s.data.toList = (S1.s.data.toList ++ [10, 59, 10]) ++ S2.s.data.toList := by rw [hu]; simp
 have hll : (S1.s.data.toList ++ [10, 59, 10]).length = S1.s.size + 3 := by rw [List.length_append, data_len]; rfl
 refine ⟨⟨?_, ?_, by rw [h2]; simp; omega⟩, by rw [h2]; simp; omega, ?_⟩
 ·intro i
  unfold Src.kd
  rw [at_]
  cases S2.ts[i]? <;> rfl
 ·intro i
  unfold Src.tx
  rw [at_]
  cases S2.ts[i]? with
  | none => rfl
  | some x => 
   simp only [Option.map_some, shiftT]
   rw [← hll]
   exact ext_right hu' _ _
 ·intro n hn
  unfold Src.pl
  rw [at_, List.getElem?_eq_getElem hn]
  simp only [Option.map_some, shiftT]
  omega
end Go.Proofs.YtifoodfbgghplaaGreatDoor

namespace Go.Proofs.YtifoodfbgghplaaGreatDoor
open Go.RowKit
set_option maxRecDepth 20000
set_option linter.unusedVariables false
set_option linter.unusedSimpArgs false

theorem firstT_pick (s : ByteArray) (l : List Tok) : firstT s (pickT saysB l) = firstT s l := by
 induction l with
 | nil => rfl
 | cons x r ih =>
  simp only [pickT, firstT]
  cases hs : saysB x.k
  ·have : noBad x = true := by
    unfold noBad
    cases hk : (x.k == 3)
    ·rfl
    ·rw [beq_iff_eq.1 hk] at hs; exact absurd hs (by decide)
   rw [this]; exact ih
  ·simp only [cond_true, firstT, ih]
theorem firstN_words (s : ByteArray) : firstN s = firstT s (wordsT s) := by unfold firstN wordsT; rw [firstT_pick]
theorem firstT_good (s : ByteArray) (A l : List Tok) (h : ∀ t ∈ A, noBad t = true) : firstT s (A ++ l) = firstT s l := by
 induction A with
 | nil => rfl
 | cons x r ih =>
  simp only [List.cons_append, firstT]
  rw [h x (by simp), ih (fun t ht => h t (by simp [ht]))]; rfl
theorem firstT_shift {t u : ByteArray} {p : List UInt8} (hu : u.data.toList = p ++ t.data.toList) (l : List Tok) : firstT u (l.map (shiftT p.length)) = ((firstT t l).1 + p.length, (firstT t l).2) := by
 induction l with
 | nil =>
  simp only [List.map_nil, firstT]
  have : u.size = p.length + t.size := by rw [← data_len, hu, List.length_append, data_len]
  rw [this]
  refine Prod.ext ?_ rfl
  simp only; omega
 | cons x r ih =>
  simp only [List.map_cons, firstT]
  have h1 : noBad (shiftT p.length x) = noBad x := rfl
  rw [h1, ih]
  cases noBad x
  ·simp only [cond_false]
   refine Prod.ext ?_ ?_
   ·simp only [shiftT]; omega
   ·simp only [shiftT]
    unfold badN
    rw [hu, Nat.add_comm, List.drop_length_add_append]
  ·rfl
theorem first_joined (s t u : ByteArray) (hu : u.data.toList = s.data.toList ++ (10 :: 59 :: 10 :: t.data.toList)) (h : (firstN s).2 = 0) :
  firstN u = ((firstN t).1 + s.size + 3, (firstN t).2) := by
 obtain ⟨A, h1, h2⟩ := words_joined s t u hu h
 have hg : ∀ x ∈ A, noBad x = true := fun x hx => first_good s (wordsT s) (by rw [← firstN_words]; exact h) x (by rw [h1]; exact List.mem_append_left _ hx)
 rw [firstN_words u, h2, firstT_good u A _ hg]
 have hu' : u.data.toList = (s.data.toList ++ [10, 59, 10]) ++ t.data.toList := by rw [hu]; simp
 have hll : (s.data.toList ++ [10, 59, 10]).length = s.size + 3 := by rw [List.length_append, data_len]; rfl
 have := firstT_shift hu' (wordsT t)
 rw [hll, ← firstN_words] at this
 simp only [firstT]
 rw [show noBad ⟨11, s.size + 1, s.size + 2⟩ = true from rfl]
 simp only [cond_true]
 rw [this]
 refine Prod.ext ?_ rfl
 simp only; omega
end Go.Proofs.YtifoodfbgghplaaGreatDoor

namespace Go.Proofs.YtifoodfbgghplaaGreatDoor
open Go.RowKit
set_option maxRecDepth 20000
set_option linter.unusedVariables false
set_option linter.unusedSimpArgs false

theorem whole_end {S : Src} {b : Pb} {n : Nat} (g : S.Good) (hp : 0 < S.ts.length) (h : wholeO S (fileS S) = .ok b n) : n = S.ts.length - 1 := by
 have hf := fileO_fin g (F := fuel S) (Nat.le_refl _) hp
 unfold wholeO fileS at h
 cases hx : fileO S (fuel S) 0 with
 | ok x k =>
  rw [hx] at h hf
  have hk : k < S.ts.length := hf.2
  simp only [Out.bind] at h
  cases hz : (S.kd k == 0)
  ·rw [hz] at h; cases h
  ·rw [hz] at h
   simp only [cond_true] at h
   injection h with _ e
   subst e
   have := (g.fin k hk).1 (by rw [← S.kd_at hk]; exact beq_iff_eq.1 hz)
   omega
 | form k => rw [hx] at h; cases h
 | deep k => rw [hx] at h; cases h
 | dry => rw [hx] at h; cases h
section
variable {S1 S2 S : Src} (g1 : S1.Good) (g2 : S2.Good) (h1s : S1.ts = wordsT S1.s) (h2s : S2.ts = wordsT S2.s) (hS : S.ts = wordsT S.s) (hu : S.s.data.toList = S1.s.data.toList ++ (10 :: 59 :: 10 :: S2.s.data.toList)) (h0 : (firstN S1.s).2 = 0) {b1 : Pb} {n1 : Nat} (h1 : wholeO S1 (fileS S1) = .ok b1 n1)
include g1 g2 h1s h2s hS hu h0 h1
omit g2 in
theorem joined_ok {b2 : Pb} {n2 : Nat} (h2 : wholeO S2 (fileS S2) = .ok b2 n2) :
  ∃ l1 l2, b1 = node 1 0 n1 [] l1 ∧ b2 = node 1 0 n2 [] l2 ∧ wholeO S (fileS S) = .ok (node 1 0 (n2 + (n1 + 1)) [] (l1 ++ l2.map (Pb.on (n1 + 1)))) (n2 + (n1 + 1)) := by
 have hn := whole_end g1 (pos_of S1 h1s) h1
 have P := pre_joined g1 S2.s h1s hS hu h0
 have H := sh_joined h1s h2s hS hu h0
 rw [← hn] at P H
 exact whole_join P H.1 H.2.1 h1 h2
theorem joined_form {m : Nat} (h2 : wholeO S2 (fileS S2) = .form m) :
  wholeO S (fileS S) = .form (m + (n1 + 1)) ∧ (m < S2.ts.length → S.pl (m + (n1 + 1)) = S2.pl m + S1.s.size + 3) := by
 have hn := whole_end g1 (pos_of S1 h1s) h1
 have P := pre_joined g1 S2.s h1s hS hu h0
 have H := sh_joined h1s h2s hS hu h0
 rw [← hn] at P H
 exact ⟨form_join P H.1 H.2.1 g2 (pos_of S2 h2s) h1 h2, H.2.2 m⟩
theorem joined_deep {m : Nat} (h2 : wholeO S2 (fileS S2) = .deep m) :
  wholeO S (fileS S) = .deep (m + (n1 + 1)) ∧ (m < S2.ts.length → S.pl (m + (n1 + 1)) = S2.pl m + S1.s.size + 3) := by
 have hn := whole_end g1 (pos_of S1 h1s) h1
 have P := pre_joined g1 S2.s h1s hS hu h0
 have H := sh_joined h1s h2s hS hu h0
 rw [← hn] at P H
 exact ⟨deep_join P H.1 H.2.1 g2 (pos_of S2 h2s) h1 h2, H.2.2 m⟩
end
end Go.Proofs.YtifoodfbgghplaaGreatDoor

namespace Go.Proofs.YtifoodfbgghplaaGreatDoor.Inn
open Go.RowKit
set_option maxRecDepth 20000
set_option linter.unusedVariables false
set_option linter.unusedSimpArgs false

def Fin (S : Src) (k n : Nat) {α : Type} : Out α → Prop
 | .ok _ m => n + k ≤ m ∧ m < S.ts.length
 | .form m => m < S.ts.length
 | .deep m => m < S.ts.length
 | .dry => False
theorem Fin.at {S : Src} {a b n m : Nat} {α : Type} {o : Out α} (h : Fin S a m o) (hb : n + b ≤ m + a) : Fin S b n o := by
 cases o with
 | ok x k => exact ⟨by have := h.1; omega, h.2⟩
 | form k => exact h
 | deep k => exact h
 | dry => exact h
theorem Fin.le {S : Src} {a b n : Nat} {α : Type} {o : Out α} (h : Fin S a n o) (hb : b ≤ a) : Fin S b n o := h.at (by omega)
theorem fin_bind {S : Src} {a b c n : Nat} {α β : Type} {o : Out α} {f : α → Nat → Out β} (h : Fin S a n o) (hc : c ≤ a + b) (hf : ∀ x m, n + a ≤ m → m < S.ts.length → Fin S b m (f x m)) : Fin S c n (o.bind f) := by
 cases o with
 | ok x m => exact (hf x m h.1 h.2).at (by have : n + a ≤ m := h.1; omega)
 | form m => exact h
 | deep m => exact h
 | dry => exact h
theorem fin_ok {S : Src} {k n m : Nat} {α : Type} {x : α} (h : n + k ≤ m) (hm : m < S.ts.length) : Fin S k n (.ok x m) := ⟨h, hm⟩
theorem fin_if {S : Src} {k n : Nat} {α : Type} {c : Bool} {a b : Out α} (ha : c = true → Fin S k n a) (hb : c = false → Fin S k n b) : Fin S k n (bif c then a else b) := by
 cases c
 ·exact hb rfl
 ·exact ha rfl
section
variable {S : Src} (g : S.Good)
include g
theorem need_fin {t : List UInt8} (ht : t ≠ []) {n : Nat} (hn : n < S.ts.length) : Fin S 1 n (S.need t n) := by
 unfold Src.need
 exact fin_if (fun h => fin_ok (Nat.le_refl _) (g.more hn ht h)) (fun _ => by show _ < S.ts.length; omega)
theorem take_fin {ks : List Int} (hz : ks.contains 0 = false) {n : Nat} (hn : n < S.ts.length) : Fin S 1 n (S.take ks n) := by
 unfold Src.take
 refine fin_if (fun h => fin_ok (Nat.le_refl _) (g.moreK hn (fun e => ?_))) (fun _ => by show _ < S.ts.length; omega)
 rw [e, hz] at h; cases h
theorem pathL_fin {ks : List Int} (hz : ks.contains 0 = false) : ∀ (f : Nat) (acc : List Nat) (n : Nat), n < S.ts.length → S.ts.length < f + n + 1 → Fin S 0 n (S.pathL ks f acc n) := by
 intro f
 induction f with
 | zero => intro acc n hn hf; omega
 | succ f ih =>
  intro acc n hn hf
  unfold Src.pathL
  refine fin_if (fun h => ?_) (fun _ => fin_ok (Nat.le_refl _) hn)
  simp only [Bool.and_eq_true] at h
  have h1 := g.more hn (by simp) h.2
  refine (fin_bind (take_fin g hz h1) (c := 1) (b := 0) (by omega) (fun x m hm hl => ih _ m hl (by omega))).at (by omega)
theorem path_fin {ks : List Int} (hz : ks.contains 0 = false) {n : Nat} (hn : n < S.ts.length) : Fin S 1 n (S.path ks n) := by
 unfold Src.path
 exact fin_bind (take_fin g hz hn) (by omega) (fun x m hm hl => pathL_fin g hz _ _ m hl (by omega))
theorem typePath_fin {n : Nat} (hn : n < S.ts.length) : Fin S 1 n (S.typePath n) := by
 unfold Src.typePath
 exact fin_bind (path_fin g (by decide) hn) (b := 0) (by omega) (fun x m hm hl => fin_if (fun _ => fin_ok (by omega) hl) (fun _ => by show _ < S.ts.length; omega))
theorem value_fin {n : Nat} (hn : n < S.ts.length) : Fin S 1 n (S.value n) := by
 unfold Src.value
 refine fin_if (fun h => ?_) (fun _ => take_fin g (by decide) hn)
 exact (take_fin g (by decide) (g.more hn (by simp) h)).at (by omega)

theorem rowL_fin {mark : List UInt8} (hm : mark ≠ []) {read : Nat → Out Pb} (hr : ∀ k, k < S.ts.length → Fin S 1 k (read k)) : ∀ (f : Nat) (acc : List Pb) (n : Nat), n < S.ts.length → S.ts.length < f + n + 1 → Fin S 0 n (rowL S mark read f acc n) := by
 intro f
 induction f with
 | zero => intro acc n hn hf; omega
 | succ f ih =>
  intro acc n hn hf
  unfold rowL
  refine fin_if (fun h => ?_) (fun _ => fin_ok (Nat.le_refl _) hn)
  have h1 := g.more hn hm h
  exact (fin_bind (hr _ h1) (c := 1) (b := 0) (by omega) (fun x m hm hl => ih _ m hl (by omega))).at (by omega)
theorem rowO_fin {F : Nat} (hF : S.ts.length ≤ F) {mark : List UInt8} (hm : mark ≠ []) {read : Nat → Out Pb} (hr : ∀ k, k < S.ts.length → Fin S 1 k (read k)) {n : Nat} (hn : n < S.ts.length) : Fin S 1 n (rowO S F mark read n) := by
 unfold rowO
 exact fin_bind (hr n hn) (by omega) (fun x m hm2 hl => rowL_fin g hm hr _ _ m hl (by omega))


section
variable {F : Nat} (hF : S.ts.length ≤ F) {rec : Nt → Nat → Nat → Out Pb} {d : Nat} (hrec : ∀ nt k, k < S.ts.length → S.may nt k → Fin S 1 k (rec nt d k))
include hF hrec
theorem atomicTyO_fin {n : Nat} (hn : n < S.ts.length) : Fin S 1 n (atomicTyO S F rec d n) := by
 unfold atomicTyO
 refine fin_if (fun h => fin_ok (by omega) (g.moreK hn (by have := beq_iff_eq.1 h; omega))) (fun _ => fin_if (fun h => ?_) (fun _ => ?_))
 ·have h1 := g.more hn (by simp) h
  refine (fin_bind (rowO_fin g hF (by simp) (fun k hk => hrec .ty k hk trivial) h1) (c := 0) (b := 0) (by omega) (fun l m hm hl => ?_)).at (by omega)
  refine (fin_bind (need_fin g (by simp) hl) (b := 0) (by omega) (fun u m2 hm2 hl2 => ?_))
  unfold pick1
  split
  ·exact fin_ok (by omega) hl2
  ·exact fin_bind (typePath_fin g hl2) (b := 0) (by omega) (fun p m3 hm3 hl3 => fin_ok (by omega) hl3)
 ·exact fin_bind (typePath_fin g hn) (b := 0) (by omega) (fun p m3 hm3 hl3 => fin_ok (by omega) hl3)
theorem appliedL_fin (n : Nat) : ∀ (f : Nat) (b : Pb) (m : Nat), m < S.ts.length → S.ts.length < f + m + 1 → Fin S 0 m (appliedL S n f b m) := by
 have _ := hF
 have _ := hrec
 intro f
 induction f with
 | zero => intro b m hn hf; omega
 | succ f ih =>
  intro b m hn hf
  unfold appliedL
  refine fin_if (fun h => ?_) (fun _ => fin_ok (Nat.le_refl _) hn)
  exact fin_bind (typePath_fin g hn) (b := 0) (by omega) (fun p m1 hm hl => ih _ m1 hl (by omega))
theorem appliedO_fin {n : Nat} (hn : n < S.ts.length) : Fin S 1 n (appliedO S F rec d n) := by
 unfold appliedO
 exact fin_bind (atomicTyO_fin g hF hrec hn) (b := 0) (by omega) (fun b m hm hl => appliedL_fin g hF hrec n _ _ m hl (by omega))
theorem productO_fin {n : Nat} (hn : n < S.ts.length) : Fin S 1 n (productO S F rec d n) := by
 unfold productO
 exact fin_bind (rowO_fin g hF (by simp) (fun k hk => appliedO_fin g hF hrec hk) hn) (b := 0) (by omega) (fun l m hm hl => fin_ok (by omega) hl)
theorem tyO_fin {n : Nat} (hn : n < S.ts.length) : Fin S 1 n (tyO S F rec d n) := by
 unfold tyO
 refine fin_bind (productO_fin g hF hrec hn) (b := 0) (by omega) (fun b m hm hl => fin_if (fun h => ?_) (fun _ => fin_ok (by omega) hl))
 exact (fin_bind (hrec .ty _ (g.more hl (by simp) h) trivial) (b := 0) (c := 0) (by omega) (fun c m2 hm2 hl2 => fin_ok (by omega) hl2)).at (by omega)
omit hrec in
theorem tupleO_fin (fr : Nat) {member : Nat → Out Pb} (hm : ∀ k, k < S.ts.length → Fin S 1 k (member k)) {n : Nat} (hn : n < S.ts.length) : Fin S 1 n (tupleO S F fr member n) := by
 unfold tupleO
 refine fin_if (fun h => fin_ok (by omega) (g.more hn (by simp) h)) (fun _ => ?_)
 refine fin_bind (rowO_fin g hF (by simp) hm hn) (b := 0) (by omega) (fun l m hm hl => ?_)
 exact fin_bind (need_fin g (by simp) hl) (b := 0) (by omega) (fun u m2 hm2 hl2 => fin_ok (by omega) hl2)
omit hrec in
theorem plainO_fin (named : Int) {member : Nat → Out Pb} (hm : ∀ k, k < S.ts.length → Fin S 1 k (member k)) {n : Nat} (hn : n < S.ts.length) : Fin S 1 n (plainO S F named member n) := by
 unfold plainO
 refine fin_if (fun h => fin_ok (by omega) (g.moreK hn (by have := beq_iff_eq.1 h; omega))) (fun _ => fin_if (fun h => fin_ok (by omega) (g.moreK hn (by have := beq_iff_eq.1 h; omega))) (fun _ => fin_if (fun h => ?_) (fun _ => ?_)))
 ·exact (tupleO_fin g hF n hm (g.more hn (by simp) h)).at (by omega)
 ·exact fin_bind (value_fin g hn) (b := 0) (by omega) (fun p m3 hm3 hl3 => fin_ok (by omega) hl3)
theorem atomicPatO_fin {n : Nat} (hn : n < S.ts.length) : Fin S 1 n (atomicPatO S F rec d n) := by
 unfold atomicPatO
 refine fin_if (fun h => fin_ok (by omega) (g.more hn (by simp) h)) (fun _ => fin_if (fun h => ?_) (fun _ => plainO_fin g hF 39 (fun k hk => hrec .pat k hk trivial) hn))
 exact fin_bind (path_fin g (by decide) hn) (b := 0) (by omega) (fun p m3 hm3 hl3 => fin_ok (by omega) hl3)
theorem patO_fin {n : Nat} (hn : n < S.ts.length) : Fin S 1 n (patO S F rec d n) := by
 unfold patO
 refine fin_if (fun h => ?_) (fun _ => fin_if (fun h => ?_) (fun _ => atomicPatO_fin g hF hrec hn))
 ·simp only [Bool.and_eq_true, beq_iff_eq] at h
  have h1 := g.moreK hn (by omega)
  have h2 := g.more h1 (by simp) h.2
  exact (fin_bind (hrec .pat _ h2 trivial) (b := 0) (c := 0) (by omega) (fun c m2 hm2 hl2 => fin_ok (by omega) hl2)).at (by omega)
 ·refine fin_bind (path_fin g (by decide) hn) (b := 0) (by omega) (fun p m hm hl => fin_if (fun _ => ?_) (fun _ => fin_ok (by omega) hl))
  exact fin_bind (atomicPatO_fin g hF hrec hl) (b := 0) (by omega) (fun p m3 hm3 hl3 => fin_ok (by omega) hl3)
theorem decsL_fin (a : Nat) : ∀ (f : Nat) (acc : List Pb) (n : Nat), n < S.ts.length → S.ts.length < f + n + 1 → Fin S 0 n (decsL S rec d a f acc n) := by
 have _ := hF
 intro f
 induction f with
 | zero => intro acc n hn hf; omega
 | succ f ih =>
  intro acc n hn hf
  unfold decsL
  refine fin_if (fun h => ?_) (fun _ => fin_if (fun h => ?_) (fun _ => fin_ok (Nat.le_refl _) hn))
  ·exact (ih acc (n + 1) (g.more hn (by simp) h) (by omega)).at (by omega)
  ·exact fin_bind (hrec (.dec a) n hn h) (b := 0) (by omega) (fun x m hm hl => ih _ m hl (by omega))
theorem decsO_fin (a : Nat) {n : Nat} (hn : n < S.ts.length) : Fin S 0 n (decsO S F rec d a n) := decsL_fin g hF hrec a _ _ n hn (by omega)
theorem withinO_fin (a : Nat) {n : Nat} (hn : n < S.ts.length) : Fin S 0 n (withinO S F rec d a n) := by
 unfold withinO
 exact fin_bind (decsO_fin g hF hrec a hn) (b := 0) (by omega) (fun l m hm hl => fin_ok (by omega) hl)
theorem atomO_fin {n : Nat} (hn : n < S.ts.length) : Fin S 1 n (atomO S F rec d n) := by
 unfold atomO
 refine fin_if (fun h => ?_) (fun _ => fin_if (fun h => ?_) (fun _ => plainO_fin g hF 28 (fun k hk => hrec .exp k hk trivial) hn))
 ·exact fin_bind (path_fin g (by decide) hn) (b := 0) (by omega) (fun p m hm hl => fin_if (fun _ => fin_ok (by omega) hl) (fun _ => fin_ok (by omega) hl))
 ·have h1 := g.more hn (by simp) h
  refine (fin_bind (withinO_fin g hF hrec 0 h1) (b := 0) (c := 0) (by omega) (fun ds m hm hl => ?_)).at (by omega)
  refine fin_bind (need_fin g (by simp) hl) (b := 0) (by omega) (fun u m2 hm2 hl2 => ?_)
  refine fin_bind (hrec .exp _ hl2 trivial) (b := 0) (by omega) (fun e m3 hm3 hl3 => ?_)
  exact fin_bind (need_fin g (by simp) hl3) (b := 0) (by omega) (fun u m4 hm4 hl4 => fin_ok (by omega) hl4)
theorem callL_fin : ∀ (f : Nat) (acc : List Pb) (n : Nat), n < S.ts.length → S.ts.length < f + n + 1 → Fin S 0 n (callL S F rec d f acc n) := by
 intro f
 induction f with
 | zero => intro acc n hn hf; omega
 | succ f ih =>
  intro acc n hn hf
  unfold callL
  refine fin_if (fun h => ?_) (fun _ => fin_ok (Nat.le_refl _) hn)
  exact fin_bind (atomO_fin g hF hrec hn) (b := 0) (by omega) (fun x m hm hl => ih _ m hl (by omega))
theorem callO_fin {n : Nat} (hn : n < S.ts.length) : Fin S 1 n (callO S F rec d n) := by
 unfold callO
 refine fin_bind (atomO_fin g hF hrec hn) (b := 0) (by omega) (fun b m hm hl => ?_)
 exact fin_bind (callL_fin g hF hrec _ _ m hl (by omega)) (b := 0) (by omega) (fun l m2 hm2 hl2 => fin_ok (by omega) hl2)
theorem infixL_fin : ∀ (f : Nat) (sg : List Nat) (acc : List Pb) (n : Nat), n < S.ts.length → S.ts.length < f + n + 1 → Fin S 0 n (infixL S F rec d f sg acc n) := by
 intro f
 induction f with
 | zero => intro sg acc n hn hf; omega
 | succ f ih =>
  intro sg acc n hn hf
  unfold infixL
  refine fin_if (fun h => ?_) (fun _ => fin_ok (Nat.le_refl _) hn)
  refine fin_bind (take_fin g (by decide) hn) (b := 0) (by omega) (fun x m hm hl => ?_)
  exact fin_bind (callO_fin g hF hrec hl) (b := 0) (by omega) (fun x m2 hm2 hl2 => ih _ _ m2 hl2 (by omega))
theorem infixO_fin {n : Nat} (hn : n < S.ts.length) : Fin S 1 n (infixO S F rec d n) := by
 unfold infixO
 refine fin_bind (callO_fin g hF hrec hn) (b := 0) (by omega) (fun b m hm hl => ?_)
 exact fin_bind (infixL_fin g hF hrec _ _ _ m hl (by omega)) (b := 0) (by omega) (fun l m2 hm2 hl2 => fin_ok (by omega) hl2)
theorem clauseO_fin (k : Int) (fr : Nat) {n : Nat} (hn : n < S.ts.length) : Fin S 1 n (clauseO S rec d k fr n) := by
 have _ := hF
 unfold clauseO
 refine fin_bind (hrec .pat _ hn trivial) (b := 0) (by omega) (fun p m hm hl => ?_)
 refine fin_bind (need_fin g (by simp) hl) (b := 0) (by omega) (fun u m2 hm2 hl2 => ?_)
 exact fin_bind (hrec .exp _ hl2 trivial) (b := 0) (by omega) (fun e m3 hm3 hl3 => fin_ok (by omega) hl3)
theorem armO_fin {n : Nat} (hn : n < S.ts.length) : Fin S 1 n (armO S rec d n) := clauseO_fin g hF hrec 33 n hn
theorem expO_fin {n : Nat} (hn : n < S.ts.length) : Fin S 1 n (expO S F rec d n) := by
 unfold expO
 refine fin_if (fun h => ?_) (fun _ => fin_if (fun h => ?_) (fun _ => fin_if (fun h => ?_) (fun _ => infixO_fin g hF hrec hn)))
 ·have h1 := g.more hn (by simp) h
  refine (fin_bind (hrec .exp _ h1 trivial) (b := 0) (c := 0) (by omega) (fun a m hm hl => ?_)).at (by omega)
  refine fin_bind (need_fin g (by simp) hl) (b := 0) (by omega) (fun u m2 hm2 hl2 => ?_)
  refine fin_bind (hrec .exp _ hl2 trivial) (b := 0) (by omega) (fun a m3 hm3 hl3 => ?_)
  refine fin_bind (need_fin g (by simp) hl3) (b := 0) (by omega) (fun u m4 hm4 hl4 => ?_)
  exact fin_bind (hrec .exp _ hl4 trivial) (b := 0) (by omega) (fun a m5 hm5 hl5 => fin_ok (by omega) hl5)
 ·have h1 := g.more hn (by simp) h
  refine (fin_bind (hrec .exp _ h1 trivial) (b := 0) (c := 0) (by omega) (fun a m hm hl => ?_)).at (by omega)
  refine fin_bind (need_fin g (by simp) hl) (b := 0) (by omega) (fun u m2 hm2 hl2 => ?_)
  exact fin_bind (rowO_fin g hF (by simp) (fun k hk => armO_fin g hF hrec hk) hl2) (b := 0) (by omega) (fun a m3 hm3 hl3 => fin_ok (by omega) hl3)
 ·exact (clauseO_fin g hF hrec 34 n (g.more hn (by simp) h)).at (by omega)
omit hF hrec in
theorem varsL_fin : ∀ (f : Nat) (n : Nat), n < S.ts.length → S.ts.length < f + n + 1 → Fin S 0 n (varsL S f n) := by
 intro f
 induction f with
 | zero => intro n hn hf; omega
 | succ f ih =>
  intro n hn hf
  unfold varsL
  refine fin_if (fun h => ?_) (fun _ => fin_ok (Nat.le_refl _) hn)
  exact (fin_bind (take_fin g (by decide) (g.more hn (by simp) h)) (b := 0) (c := 0) (by omega) (fun x m hm hl => ih m hl (by omega))).at (by omega)
omit hrec in
theorem typeNameO_fin {n : Nat} (hn : n < S.ts.length) : Fin S 1 n (typeNameO S F n) := by
 unfold typeNameO
 refine fin_if (fun h => ?_) (fun _ => fin_if (fun h => ?_) (fun _ => take_fin g (by decide) hn))
 ·exact (take_fin g (by decide) (g.moreK hn (by have := beq_iff_eq.1 h; omega))).at (by omega)
 ·refine (fin_bind (take_fin g (by decide) (g.more hn (by simp) h)) (b := 0) (c := 0) (by omega) (fun x m hm hl => ?_)).at (by omega)
  refine fin_bind (varsL_fin g _ m hl (by omega)) (b := 0) (by omega) (fun u m2 hm2 hl2 => ?_)
  refine fin_bind (need_fin g (by simp) hl2) (b := 0) (by omega) (fun u m3 hm3 hl3 => ?_)
  exact (take_fin g (by decide) hl3).le (by omega)
theorem conO_fin {n : Nat} (hn : n < S.ts.length) : Fin S 1 n (conO S rec d n) := by
 have _ := hF
 unfold conO
 refine fin_bind (take_fin g (by decide) hn) (b := 0) (by omega) (fun x m hm hl => fin_if (fun h => ?_) (fun _ => fin_ok (by omega) hl))
 exact (fin_bind (hrec .ty _ (g.more hl (by simp) h) trivial) (b := 0) (c := 0) (by omega) (fun c m2 hm2 hl2 => fin_ok (by omega) hl2)).at (by omega)
theorem dbindO_fin {n : Nat} (hn : n < S.ts.length) : Fin S 1 n (dbindO S F rec d n) := by
 unfold dbindO
 refine fin_bind (typeNameO_fin g hF hn) (b := 0) (by omega) (fun x m hm hl => ?_)
 refine fin_bind (need_fin g (by simp) hl) (b := 0) (by omega) (fun u m2 hm2 hl2 => ?_)
 exact fin_bind (rowO_fin g hF (by simp) (fun k hk => conO_fin g hF hrec hk) hl2) (b := 0) (by omega) (fun a m3 hm3 hl3 => fin_ok (by omega) hl3)
theorem datatypesO_fin (fr : Nat) {n : Nat} (hn : n < S.ts.length) : Fin S 1 n (datatypesO S F rec d fr n) := by
 unfold datatypesO
 exact fin_bind (rowO_fin g hF (by simp) (fun k hk => dbindO_fin g hF hrec hk) hn) (b := 0) (by omega) (fun a m3 hm3 hl3 => fin_ok (by omega) hl3)
theorem specO_fin {n : Nat} (hn : n < S.ts.length) : Fin S 1 n (specO S F rec d n) := by
 unfold specO
 refine fin_if (fun h => ?_) (fun _ => fin_if (fun h => ?_) (fun _ => fin_if (fun h => ?_) (fun _ => fin_if (fun h => ?_) (fun _ => ?_))))
 ·refine (fin_bind (value_fin g (g.more hn (by simp) h)) (b := 0) (c := 0) (by omega) (fun x m hm hl => ?_)).at (by omega)
  refine fin_bind (need_fin g (by simp) hl) (b := 0) (by omega) (fun u m2 hm2 hl2 => ?_)
  exact fin_bind (hrec .ty _ hl2 trivial) (b := 0) (by omega) (fun a m5 hm5 hl5 => fin_ok (by omega) hl5)
 ·refine (fin_bind (typeNameO_fin g hF (g.more hn (by simp) h)) (b := 0) (c := 0) (by omega) (fun x m hm hl => fin_if (fun h => ?_) (fun _ => fin_ok (by omega) hl))).at (by omega)
  exact (fin_bind (hrec .ty _ (g.more hl (by simp) h) trivial) (b := 0) (c := 0) (by omega) (fun c m2 hm2 hl2 => fin_ok (by omega) hl2)).at (by omega)
 ·exact (datatypesO_fin g hF hrec n (g.more hn (by simp) h)).at (by omega)
 ·refine (fin_bind (take_fin g (by decide) (g.more hn (by simp) h)) (b := 0) (c := 0) (by omega) (fun x m hm hl => ?_)).at (by omega)
  refine fin_bind (need_fin g (by simp) hl) (b := 0) (by omega) (fun u m2 hm2 hl2 => ?_)
  exact fin_bind (hrec .sig _ hl2 trivial) (b := 0) (by omega) (fun a m5 hm5 hl5 => fin_ok (by omega) hl5)
 ·refine fin_bind (need_fin g (by simp) hn) (b := 0) (by omega) (fun u m2 hm2 hl2 => ?_)
  exact fin_bind (hrec .sig _ hl2 trivial) (b := 0) (by omega) (fun a m5 hm5 hl5 => fin_ok (by omega) hl5)
theorem specsL_fin : ∀ (f : Nat) (acc : List Pb) (n : Nat), n < S.ts.length → S.ts.length < f + n + 1 → Fin S 0 n (specsL S F rec d f acc n) := by
 intro f
 induction f with
 | zero => intro acc n hn hf; omega
 | succ f ih =>
  intro acc n hn hf
  unfold specsL
  refine fin_if (fun h => fin_ok (by omega) (g.more hn (by simp) h)) (fun _ => fin_if (fun h => ?_) (fun _ => ?_))
  ·exact (ih acc (n + 1) (g.more hn (by simp) h) (by omega)).at (by omega)
  ·exact fin_bind (specO_fin g hF hrec hn) (b := 0) (by omega) (fun x m hm hl => ih _ m hl (by omega))
theorem bareSigO_fin {n : Nat} (hn : n < S.ts.length) : Fin S 1 n (bareSigO S F rec d n) := by
 unfold bareSigO
 refine fin_if (fun h => ?_) (fun _ => ?_)
 ·have h1 := g.more hn (by simp) h
  exact (fin_bind (specsL_fin g hF hrec _ _ (n + 1) h1 (by omega)) (b := 0) (c := 0) (by omega) (fun a m5 hm5 hl5 => fin_ok (by omega) hl5)).at (by omega)
 ·exact fin_bind (take_fin g (by decide) hn) (b := 0) (by omega) (fun a m5 hm5 hl5 => fin_ok (by omega) hl5)
theorem whereL_fin (fr : Nat) : ∀ (f : Nat) (b : Pb) (n : Nat), n < S.ts.length → S.ts.length < f + n + 1 → Fin S 0 n (whereL S rec d fr f b n) := by
 have _ := hF
 intro f
 induction f with
 | zero => intro b n hn hf; omega
 | succ f ih =>
  intro b n hn hf
  unfold whereL
  refine fin_if (fun h => ?_) (fun _ => fin_ok (Nat.le_refl _) hn)
  have h1 := g.more hn (by simp) h
  refine (fin_bind (need_fin g (by simp) h1) (b := 0) (c := 0) (by omega) (fun u m hm hl => ?_)).at (by omega)
  refine fin_bind (typePath_fin g hl) (b := 0) (by omega) (fun p m2 hm2 hl2 => ?_)
  refine fin_bind (need_fin g (by simp) hl2) (b := 0) (by omega) (fun u m3 hm3 hl3 => ?_)
  exact fin_bind (hrec .ty _ hl3 trivial) (b := 0) (by omega) (fun c m4 hm4 hl4 => ih _ m4 hl4 (by omega))
theorem sigO_fin {n : Nat} (hn : n < S.ts.length) : Fin S 1 n (sigO S F rec d n) := by
 unfold sigO
 exact fin_bind (bareSigO_fin g hF hrec hn) (b := 0) (by omega) (fun b m hm hl => whereL_fin g hF hrec n _ _ m hl (by omega))
theorem bareStrO_fin {n : Nat} (hn : n < S.ts.length) : Fin S 1 n (bareStrO S F rec d n) := by
 unfold bareStrO
 refine fin_if (fun h => ?_) (fun _ => fin_if (fun h => ?_) (fun _ => ?_))
 ·refine (fin_bind (decsO_fin g hF hrec 1 (g.more hn (by simp) h)) (b := 0) (c := 0) (by omega) (fun l m hm hl => ?_)).at (by omega)
  exact fin_bind (need_fin g (by simp) hl) (b := 0) (by omega) (fun u m2 hm2 hl2 => fin_ok (by omega) hl2)
 ·simp only [Bool.and_eq_true, beq_iff_eq] at h
  have h1 := g.moreK hn (by omega)
  have h2 := g.more h1 (by simp) h.2
  refine (fin_bind (hrec .str _ h2 trivial) (b := 0) (c := 0) (by omega) (fun c m2 hm2 hl2 => ?_)).at (by omega)
  exact fin_bind (need_fin g (by simp) hl2) (b := 0) (by omega) (fun u m3 hm3 hl3 => fin_ok (by omega) hl3)
 ·exact fin_bind (path_fin g (by decide) hn) (b := 0) (by omega) (fun p m hm hl => fin_ok (by omega) hl)
theorem sealL_fin (fr : Nat) : ∀ (f : Nat) (b : Pb) (n : Nat), n < S.ts.length → S.ts.length < f + n + 1 → Fin S 0 n (sealL S rec d fr f b n) := by
 have _ := hF
 intro f
 induction f with
 | zero => intro b n hn hf; omega
 | succ f ih =>
  intro b n hn hf
  unfold sealL
  refine fin_if (fun _ => fin_ok (Nat.le_refl _) hn) (fun h => ?_)
  have h2 := (colon_fin g hn).2.2.1 (by simpa using h)
  have h1 := (colon_fin g hn).1
  rw [h2] at h1
  exact (fin_bind (hrec .sig _ h1 trivial) (b := 0) (c := 0) (by omega) (fun c m4 hm4 hl4 => ih _ m4 hl4 (by omega))).at (by omega)
theorem strO_fin {n : Nat} (hn : n < S.ts.length) : Fin S 1 n (strO S F rec d n) := by
 unfold strO
 exact fin_bind (bareStrO_fin g hF hrec hn) (b := 0) (by omega) (fun b m hm hl => sealL_fin g hF hrec n _ _ m hl (by omega))
theorem bodyO_fin {n : Nat} (hn : n < S.ts.length) : Fin S 1 n (bodyO S rec d n) := by
 have _ := hF
 unfold bodyO
 refine fin_bind (a := 0) (b := 1) (fin_if (fun _ => fin_ok (Nat.le_refl _) hn) (fun h => ?_)) (by omega) (fun l m hm hl => ?_)
 ·have h2 := (colon_fin g hn).2.2.1 (by simpa using h)
  have h1 := (colon_fin g hn).1
  rw [h2] at h1
  exact (fin_bind (hrec .sig _ h1 trivial) (b := 0) (c := 0) (by omega) (fun c m4 hm4 hl4 => fin_ok (by omega) hl4)).at (by omega)
 ·refine fin_bind (need_fin g (by simp) hl) (b := 0) (by omega) (fun u m2 hm2 hl2 => ?_)
  exact fin_bind (hrec .str _ hl2 trivial) (b := 0) (by omega) (fun c m4 hm4 hl4 => fin_ok (by omega) hl4)
theorem structureO_fin (fr : Nat) {n : Nat} (hn : n < S.ts.length) : Fin S 1 n (structureO S rec d fr n) := by
 unfold structureO
 refine fin_bind (take_fin g (by decide) hn) (b := 0) (by omega) (fun x m hm hl => ?_)
 exact fin_bind (bodyO_fin g hF hrec hl) (b := 0) (by omega) (fun c m4 hm4 hl4 => fin_ok (by omega) hl4)
theorem functorO_fin (fr : Nat) {n : Nat} (hn : n < S.ts.length) : Fin S 1 n (functorO S rec d fr n) := by
 unfold functorO
 refine fin_bind (take_fin g (by decide) hn) (b := 0) (by omega) (fun x m hm hl => ?_)
 refine fin_bind (need_fin g (by simp) hl) (b := 0) (by omega) (fun u m2 hm2 hl2 => ?_)
 refine fin_bind (take_fin g (by decide) hl2) (b := 0) (by omega) (fun x m3 hm3 hl3 => ?_)
 refine fin_bind (need_fin g (by simp) hl3) (b := 0) (by omega) (fun u m4 hm4 hl4 => ?_)
 refine fin_bind (hrec .sig _ hl4 trivial) (b := 0) (by omega) (fun c m5 hm5 hl5 => ?_)
 refine fin_bind (need_fin g (by simp) hl5) (b := 0) (by omega) (fun u m6 hm6 hl6 => ?_)
 exact fin_bind (bodyO_fin g hF hrec hl6) (b := 0) (by omega) (fun c m7 hm7 hl7 => fin_ok (by omega) hl7)
theorem funL_fin : ∀ (f : Nat) (acc : List Pb) (n : Nat), n < S.ts.length → S.ts.length < f + n + 1 → Fin S 0 n (funL S F rec d f acc n) := by
 intro f
 induction f with
 | zero => intro acc n hn hf; omega
 | succ f ih =>
  intro acc n hn hf
  unfold funL
  refine fin_if (fun h => ?_) (fun _ => fin_ok (Nat.le_refl _) hn)
  exact fin_bind (atomicPatO_fin g hF hrec hn) (b := 0) (by omega) (fun x m hm hl => ih _ m hl (by omega))
theorem functionO_fin {n : Nat} (hn : n < S.ts.length) : Fin S 1 n (functionO S F rec d n) := by
 unfold functionO
 refine fin_bind (value_fin g hn) (b := 0) (by omega) (fun x m hm hl => ?_)
 refine fin_bind (atomicPatO_fin g hF hrec hl) (b := 0) (by omega) (fun x m2 hm2 hl2 => ?_)
 refine fin_bind (funL_fin g hF hrec _ _ m2 hl2 (by omega)) (b := 0) (by omega) (fun x m3 hm3 hl3 => ?_)
 refine fin_bind (need_fin g (by simp) hl3) (b := 0) (by omega) (fun u m4 hm4 hl4 => ?_)
 exact fin_bind (hrec .exp _ hl4 trivial) (b := 0) (by omega) (fun c m5 hm5 hl5 => fin_ok (by omega) hl5)
theorem localO_fin (fr a : Nat) {n : Nat} (hn : n < S.ts.length) : Fin S 1 n (localO S F rec d fr a n) := by
 unfold localO
 refine fin_bind (withinO_fin g hF hrec a hn) (b := 1) (by omega) (fun x m hm hl => ?_)
 refine fin_bind (need_fin g (by simp) hl) (b := 0) (by omega) (fun u m2 hm2 hl2 => ?_)
 refine fin_bind (withinO_fin g hF hrec a hl2) (b := 0) (by omega) (fun x m3 hm3 hl3 => ?_)
 exact fin_bind (need_fin g (by simp) hl3) (b := 0) (by omega) (fun u m4 hm4 hl4 => fin_ok (by omega) hl4)
theorem decO_fin (a : Nat) {n : Nat} (hn1 : n + 1 < S.ts.length) : Fin S 1 n (decO S F rec d a n) := by
 unfold decO
 refine fin_if (fun h => ?_) (fun _ => fin_if (fun h => ?_) (fun _ => fin_if (fun h => ?_) (fun _ => fin_if (fun h => ?_) (fun _ => fin_if (fun h => ?_) (fun _ => fin_if (fun h => ?_) (fun _ => fin_if (fun h => ?_) (fun _ => fin_if (fun h => ?_) (fun _ => ?_))))))))
 ·refine (fin_bind (hrec .pat _ hn1 trivial) (b := 0) (c := 0) (by omega) (fun x m hm hl => ?_)).at (by omega)
  refine fin_bind (need_fin g (by simp) hl) (b := 0) (by omega) (fun u m2 hm2 hl2 => ?_)
  exact fin_bind (hrec .exp _ hl2 trivial) (b := 0) (by omega) (fun c m5 hm5 hl5 => fin_ok (by omega) hl5)
 ·exact (fin_bind (rowO_fin g hF (by simp) (fun k hk => functionO_fin g hF hrec hk) hn1) (b := 0) (c := 0) (by omega) (fun a m3 hm3 hl3 => fin_ok (by omega) hl3)).at (by omega)
 ·refine (fin_bind (typeNameO_fin g hF hn1) (b := 0) (c := 0) (by omega) (fun x m hm hl => ?_)).at (by omega)
  refine fin_bind (need_fin g (by simp) hl) (b := 0) (by omega) (fun u m2 hm2 hl2 => ?_)
  exact fin_bind (hrec .ty _ hl2 trivial) (b := 0) (by omega) (fun c m5 hm5 hl5 => fin_ok (by omega) hl5)
 ·exact (datatypesO_fin g hF hrec n hn1).at (by omega)
 ·exact (structureO_fin g hF hrec n hn1).at (by omega)
 ·refine (fin_bind (take_fin g (by decide) hn1) (b := 0) (c := 0) (by omega) (fun x m hm hl => ?_)).at (by omega)
  refine fin_bind (need_fin g (by simp) hl) (b := 0) (by omega) (fun u m2 hm2 hl2 => ?_)
  exact fin_bind (hrec .sig _ hl2 trivial) (b := 0) (by omega) (fun c m5 hm5 hl5 => fin_ok (by omega) hl5)
 ·exact (functorO_fin g hF hrec n hn1).at (by omega)
 ·exact (fin_bind (path_fin g (by decide) hn1) (b := 0) (c := 0) (by omega) (fun c m5 hm5 hl5 => fin_ok (by omega) hl5)).at (by omega)
 ·exact (localO_fin g hF hrec n a hn1).at (by omega)
end
theorem parts_fin : ∀ (f : Nat) (nt : Nt) (d n : Nat), d ≤ 256 → n < S.ts.length → S.may nt n → S.ts.length + 257 ≤ f + d → Fin S 1 n (parts S f nt d n) := by
 intro f
 induction f with
 | zero => intro nt d n hd hn _ hf; omega
 | succ f ih =>
  intro nt d n hd hn hmay hf
  unfold parts
  refine fin_if (fun _ => by show _ < S.ts.length; omega) (fun h => ?_)
  have h256 : d ≠ 256 := by simpa using h
  have hrec : ∀ nt k, k < S.ts.length → S.may nt k → Fin S 1 k (parts S f nt (d + 1) k) := fun nt k hk hm => ih nt (d + 1) k (by omega) hk hm (by omega)
  have hF : S.ts.length ≤ f := by omega
  cases nt with
  | exp => exact expO_fin g hF hrec hn
  | pat => exact patO_fin g hF hrec hn
  | ty => exact tyO_fin g hF hrec hn
  | sig => exact sigO_fin g hF hrec hn
  | str => exact strO_fin g hF hrec hn
  | dec a => exact decO_fin g hF hrec a (declares_more g hn hmay)
theorem fileO_fin {F : Nat} (hF : S.ts.length + 257 ≤ F) {n : Nat} (hn : n < S.ts.length) : Fin S 0 n (fileO S F n) := by
 unfold fileO
 exact fin_bind (decsO_fin g (F := F) (by omega) (rec := parts S F) (d := 0) (fun nt k hk hm => parts_fin g F nt 0 k (by omega) hk hm (by omega)) 2 hn) (b := 0) (by omega) (fun l m hm hl => fin_ok (by omega) hl)
theorem whole_fin (hp : 0 < S.ts.length) : Fin S 0 0 (wholeO S (fileS S)) := by
 unfold wholeO
 exact fin_bind (fileO_fin g (F := fuel S) (Nat.le_refl _) hp) (b := 0) (by omega) (fun b m hm hl => fin_if (fun _ => fin_ok (by omega) hl) (fun _ => by show _ < S.ts.length; omega))
theorem form_in (hp : 0 < S.ts.length) {n : Nat} (h : wholeO S (fileS S) = .form n) : n < S.ts.length := by
 have := whole_fin g hp
 rw [h] at this
 exact this
theorem deep_in (hp : 0 < S.ts.length) {n : Nat} (h : wholeO S (fileS S) = .deep n) : n < S.ts.length := by
 have := whole_fin g hp
 rw [h] at this
 exact this
end
end Go.Proofs.YtifoodfbgghplaaGreatDoor.Inn
