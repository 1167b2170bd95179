/-
  The plain parser goes the same way on tokens that stand further on.; The plain parser goes the same way on tokens that stand further on: each part.; A text's tokens follow one another: plain facts.; A token's own text is one token, of its kind: plain facts.; Two texts with a line end between them: plain facts.; Pieces of texts; the first bad token by the words.; Where a text is no part, the place is within: so much more than the same names outside say.; The plain parser's branches are right, and each name in a text is one branch's, once.; How large the plain parser's branches are: a branch, all its parts and all their names are fewer than three for each token.; Are two branches the same: the document's way.; The document's Kind.; The document's lexer: bytes, notes, texts.
-/
import Derived.Test.YtkjgkchdkeggoaaGreatDoorPath
import Derived.Test.YtkjgkchdkeggoaaGreatDoorTy
import Derived.Test.YtkjgkchdkeggoaaGreatDoorFirst
import Derived.Test.YtkjgkchdkeggoaaGreatDoorFiles
import Derived.Test.YtkjgkchdkeggoaaGreatDoorKeep
import Derived.Test.YtkjgkchdkeggoaaGreatDoorAll
namespace Go.Proofs.YtkjgkchdkeggoaaGreatDoor
open Go.RowKit
set_option linter.unusedVariables false
set_option linter.unusedSimpArgs false

mutual
/-- A branch, so many tokens on. -/
def Pb.on (k : Nat) : Pb → Pb
 | .mk a m f t ns ks => .mk a m (f + k) (t + k) (ns.map fun x => x + k) (onL k ks)
def onL (k : Nat) : List Pb → List Pb
 | [] => []
 | b :: r => b.on k :: onL k r
end
theorem onL_map (k : Nat) (l : List Pb) : onL k l = l.map (Pb.on k) := by
 induction l with
 | nil => rfl
 | cons x r ih => simp only [onL, List.map_cons, ih]
/-- What a call comes to, so many tokens on. -/
def Out.on {α : Type} (k : Nat) (g : α → α) : Out α → Out α
 | .ok a n => .ok (g a) (n + k)
 | .form n => .form (n + k)
 | .deep n => .deep (n + k)
 | .dry => .dry
/-- Where the one is not dry, the other one is it, so many tokens on. -/
def Rel {α : Type} (k : Nat) (g : α → α) (o o' : Out α) : Prop := o ≠ .dry → o' = o.on k g
theorem rel_bind {α β : Type} {k : Nat} {g : α → α} {h : β → β} {o o' : Out α} {f f' : α → Nat → Out β} (ho : Rel k g o o') (hf : ∀ x n, o = .ok x n → Rel k h (f x n) (f' (g x) (n + k))) : Rel k h (o.bind f) (o'.bind f') := by
 intro hnd
 rw [ho (bind_dry hnd)]
 cases o with
 | ok x n => exact hf x n rfl hnd
 | form n => rfl
 | deep n => rfl
 | dry => exact absurd rfl hnd
theorem rel_if {α : Type} {k : Nat} {g : α → α} {c c' : Bool} {a b a' b' : Out α} (hc : c' = c) (ha : c = true → Rel k g a a') (hb : c = false → Rel k g b b') : Rel k g (bif c then a else b) (bif c' then a' else b') := by
 subst hc
 cases c'
 ·exact hb rfl
 ·exact ha rfl
theorem rel_ok {α : Type} {k : Nat} {g : α → α} {x x' : α} {m m' : Nat} (hx : x' = g x) (hm : m' = m + k) : Rel k g (.ok x m) (.ok x' m') := fun _ => by rw [hx, hm]; rfl
theorem rel_form {α : Type} {k : Nat} {g : α → α} {m m' : Nat} (hm : m' = m + k) : Rel k g (.form m) (.form m') := fun _ => by rw [hm]; rfl
theorem rel_at {α : Type} {k : Nat} {g : α → α} {o : Out α} {f : Nat → Out α} {m m' : Nat} (h : Rel k g o (f m)) (e : m' = m) : Rel k g o (f m') := by rw [e]; exact h
theorem node_on (k : Nat) (a : Int) (f t : Nat) (ns : List Nat) (ks : List Pb) : (node a f t ns ks).on k = node a (f + k) (t + k) (ns.map fun x => x + k) (ks.map (Pb.on k)) := by
 simp only [node, Pb.on, onL_map, Pb.mk.injEq, List.map_map, true_and, and_true]
 refine ⟨by omega, by omega, ?_⟩
 apply List.map_congr_left
 intro x _
 simp
theorem marked_on (k : Nat) (m : Int) (b : Pb) : (marked m b).on k = marked m (b.on k) := by cases b; rfl
theorem oneOr_on (k : Nat) (l : List Pb) (a : Int) (f t : Nat) (ns : List Nat) : (oneOr l a f t ns).on k = oneOr (l.map (Pb.on k)) a (f + k) (t + k) (ns.map fun x => x + k) := by
 match l with
 | [] => exact node_on k a f t ns []
 | [b] => rfl
 | b :: c :: r => exact node_on k a f t ns (b :: c :: r)
abbrev addN (k : Nat) : Nat → Nat := fun x => x + k
abbrev addL (k : Nat) : List Nat → List Nat := List.map (addN k)
/-- S' has the tokens of S, so many further on. -/
structure Sh (S S' : Src) (k : Nat) : Prop where
 kd : ∀ i, S'.kd (i + k) = S.kd i
 tx : ∀ i, S'.tx (i + k) = S.tx i
 len : S.ts.length ≤ S'.ts.length
section
variable {S S' : Src} {k : Nat}
theorem Sh.is (H : Sh S S' k) (n : Nat) (t : List UInt8) : S'.is (n + k) t = S.is n t := by unfold Src.is; rw [H.tx]
theorem need_on (H : Sh S S' k) (t : List UInt8) (n : Nat) : Rel k id (S.need t n) (S'.need t (n + k)) := by
 unfold Src.need
 exact rel_if (H.is n t) (fun _ => rel_ok rfl (by omega)) (fun _ => rel_form rfl)
theorem take_on (H : Sh S S' k) (ks : List Int) (n : Nat) : Rel k (addN k) (S.take ks n) (S'.take ks (n + k)) := by
 unfold Src.take
 rw [H.kd]
 exact rel_if rfl (fun _ => rel_ok rfl (by omega)) (fun _ => rel_form rfl)
theorem take_pos {ks : List Int} {n x m : Nat} (h : S.take ks n = .ok x m) : 0 < m := by
 unfold Src.take at h
 cases hc : ks.contains (S.kd n) <;> rw [hc] at h
 ·cases h
 ·simp only [cond_true, Out.ok.injEq] at h; omega
theorem pathL_on (H : Sh S S' k) (ks : List Int) : ∀ (f f' : Nat) (acc : List Nat) (n : Nat), f ≤ f' → 0 < n → Rel k (addL k) (S.pathL ks f acc n) (S'.pathL ks f' (addL k acc) (n + k)) := by
 intro f
 induction f with
 | zero => intro f' acc n _ _ h; exact absurd rfl h
 | succ f ih =>
  intro f' acc n hf hn
  obtain ⟨q, rfl⟩ : ∃ q, f' = q + 1 := ⟨f' - 1, by omega⟩
  unfold Src.pathL
  rw [show n + k - 1 = n - 1 + k by omega, H.kd, H.is]
  refine rel_if rfl (fun _ => ?_) (fun _ => rel_ok rfl rfl)
  rw [Nat.add_right_comm]
  refine rel_bind (take_on H ks (n + 1)) (fun x m hx => ?_)
  have := ih q (acc ++ [x]) m (by omega) (take_pos hx)
  simpa [addL] using this
theorem pathL_pos {ks : List Int} : ∀ {f : Nat} {acc p : List Nat} {n m : Nat}, 0 < n → S.pathL ks f acc n = .ok p m → 0 < m := by
 intro f acc p n m hn h
 have := pathL_lt h
 omega
theorem path_on (H : Sh S S' k) (ks : List Int) (n : Nat) : Rel k (addL k) (S.path ks n) (S'.path ks (n + k)) := by
 unfold Src.path
 exact rel_bind (take_on H ks n) (fun x m hx => pathL_on H ks _ _ [x] m H.len (take_pos hx))
theorem path_pos {ks : List Int} {n m : Nat} {p : List Nat} (h : S.path ks n = .ok p m) : 0 < m := by have := path_lt h; omega
theorem typePath_on (H : Sh S S' k) (n : Nat) : Rel k (addL k) (S.typePath n) (S'.typePath (n + k)) := by
 unfold Src.typePath
 refine rel_bind (path_on H [7, 6] n) (fun p m hp => ?_)
 have := path_pos hp
 rw [show m + k - 1 = m - 1 + k by omega, H.kd]
 exact rel_if rfl (fun _ => rel_ok rfl rfl) (fun _ => rel_form rfl)
theorem value_on (H : Sh S S' k) (n : Nat) : Rel k (addN k) (S.value n) (S'.value (n + k)) := by
 unfold Src.value
 exact rel_if (H.is n _) (fun _ => by rw [Nat.add_right_comm]; exact take_on H _ _) (fun _ => take_on H _ _)
theorem Sh.begins (H : Sh S S' k) (o : List (List UInt8)) (n : Nat) : S'.begins o (n + k) = S.begins o n := by
 unfold Src.begins Src.beginsK
 rw [H.kd, H.is, H.is]
 congr 1
 congr 1
 funext t
 exact H.is n t
theorem Sh.colon (H : Sh S S' k) (n : Nat) : S'.colon (n + k) = ((S.colon n).1, (S.colon n).2 + k) := by
 unfold Src.colon
 rw [H.is, H.is]
 cases S.is n [58]
 ·cases S.is n [58, 62]
  ·rfl
  ·simp; omega
 ·simp; omega
theorem Sh.declares (H : Sh S S' k) (a n : Nat) : declares S' a (n + k) = declares S a n := by
 unfold Go.Proofs.YtkjgkchdkeggoaaGreatDoor.declares
 simp only [H.is]
theorem rowL_on (H : Sh S S' k) (mark : List UInt8) {read read' : Nat → Out Pb} (hr : ∀ n, Rel k (Pb.on k) (read n) (read' (n + k))) : ∀ (f f' : Nat) (acc : List Pb) (n : Nat), f ≤ f' → Rel k (List.map (Pb.on k)) (rowL S mark read f acc n) (rowL S' mark read' f' (acc.map (Pb.on k)) (n + k)) := by
 intro f
 induction f with
 | zero => intro f' acc n _ h; exact absurd rfl h
 | succ f ih =>
  intro f' acc n hf
  obtain ⟨q, rfl⟩ : ∃ q, f' = q + 1 := ⟨f' - 1, by omega⟩
  unfold rowL
  refine rel_if (H.is n mark) (fun _ => ?_) (fun _ => rel_ok rfl rfl)
  rw [Nat.add_right_comm]
  refine rel_bind (hr (n + 1)) (fun b m _ => ?_)
  have := ih q (acc ++ [b]) m (by omega)
  simpa using this
theorem rowO_on (H : Sh S S' k) {F F' : Nat} (hF : F ≤ F') (mark : List UInt8) {read read' : Nat → Out Pb} (hr : ∀ n, Rel k (Pb.on k) (read n) (read' (n + k))) (n : Nat) : Rel k (List.map (Pb.on k)) (rowO S F mark read n) (rowO S' F' mark read' (n + k)) := by
 unfold rowO
 exact rel_bind (hr n) (fun b m _ => rowL_on H mark hr F F' [b] m hF)
end
end Go.Proofs.YtkjgkchdkeggoaaGreatDoor

namespace Go.Proofs.YtkjgkchdkeggoaaGreatDoor
open Go.RowKit
set_option maxRecDepth 20000
set_option linter.unusedVariables false
set_option linter.unusedSimpArgs false

section
variable {S S' : Src} {k : Nat}
theorem atomicTy_on (H : Sh S S' k) {F F' : Nat} (hF : F ≤ F') {rec rec' : Nt → Nat → Nat → Out Pb} {d : Nat} (hr : ∀ nt n, Rel k (Pb.on k) (rec nt d n) (rec' nt d (n + k))) (n : Nat) : Rel k (Pb.on k) (atomicTyO S F rec d n) (atomicTyO S' F' rec' d (n + k)) := by
 unfold atomicTyO
 refine rel_if (by rw [H.kd]) (fun _ => rel_ok (by simp [node_on, Nat.add_right_comm]) (by omega)) (fun _ => rel_if (H.is n _) (fun _ => ?_) (fun _ => ?_))
 ·rw [Nat.add_right_comm]
  refine rel_bind (rowO_on H hF [44] (hr .ty) (n + 1)) (fun l m _ => ?_)
  refine rel_bind (need_on H [41] m) (fun u m2 _ => ?_)
  match l with
  | [b] => exact rel_ok rfl rfl
  | [] => exact rel_bind (typePath_on H m2) (fun p m3 _ => rel_ok (by simp [node_on, Nat.add_right_comm]) (by omega))
  | a :: b :: c => exact rel_bind (typePath_on H m2) (fun p m3 _ => rel_ok (by simp [node_on, Nat.add_right_comm]) (by omega))
 ·exact rel_bind (typePath_on H n) (fun p m3 _ => rel_ok (by simp [node_on, Nat.add_right_comm]) (by omega))
theorem appliedL_on (H : Sh S S' k) (n : Nat) : ∀ (f f' : Nat) (b : Pb) (m : Nat), f ≤ f' → Rel k (Pb.on k) (appliedL S n f b m) (appliedL S' (n + k) f' (b.on k) (m + k)) := by
 intro f
 induction f with
 | zero => intro f' b m _ h; exact absurd rfl h
 | succ f ih =>
  intro f' b m hf
  obtain ⟨q, rfl⟩ : ∃ q, f' = q + 1 := ⟨f' - 1, by omega⟩
  unfold appliedL
  refine rel_if (by rw [H.kd]) (fun _ => ?_) (fun _ => rel_ok rfl rfl)
  refine rel_bind (typePath_on H m) (fun p m1 _ => ?_)
  have := ih q (node 42 n m1 p [b]) m1 (by omega)
  rwa [node_on] at this
theorem applied_on (H : Sh S S' k) {F F' : Nat} (hF : F ≤ F') {rec rec' : Nt → Nat → Nat → Out Pb} {d : Nat} (hr : ∀ nt n, Rel k (Pb.on k) (rec nt d n) (rec' nt d (n + k))) (n : Nat) : Rel k (Pb.on k) (appliedO S F rec d n) (appliedO S' F' rec' d (n + k)) := by
 unfold appliedO
 exact rel_bind (atomicTy_on H hF hr n) (fun b m _ => appliedL_on H n F F' b m hF)
theorem product_on (H : Sh S S' k) {F F' : Nat} (hF : F ≤ F') {rec rec' : Nt → Nat → Nat → Out Pb} {d : Nat} (hr : ∀ nt n, Rel k (Pb.on k) (rec nt d n) (rec' nt d (n + k))) (n : Nat) : Rel k (Pb.on k) (productO S F rec d n) (productO S' F' rec' d (n + k)) := by
 unfold productO
 exact rel_bind (rowO_on H hF [42] (fun n => applied_on H hF hr n) n) (fun l m _ => rel_ok (by simp [oneOr_on]) rfl)
theorem ty_on (H : Sh S S' k) {F F' : Nat} (hF : F ≤ F') {rec rec' : Nt → Nat → Nat → Out Pb} {d : Nat} (hr : ∀ nt n, Rel k (Pb.on k) (rec nt d n) (rec' nt d (n + k))) (n : Nat) : Rel k (Pb.on k) (tyO S F rec d n) (tyO S' F' rec' d (n + k)) := by
 unfold tyO
 refine rel_bind (product_on H hF hr n) (fun b m _ => rel_if (H.is m _) (fun _ => ?_) (fun _ => rel_ok rfl rfl))
 rw [Nat.add_right_comm]
 exact rel_bind (hr .ty (m + 1)) (fun c m2 _ => rel_ok (by simp [node_on, Nat.add_right_comm]) (by omega))
theorem tuple_on (H : Sh S S' k) {F F' : Nat} (hF : F ≤ F') (fr : Nat) {mem mem' : Nat → Out Pb} (hm : ∀ n, Rel k (Pb.on k) (mem n) (mem' (n + k))) (n : Nat) : Rel k (Pb.on k) (tupleO S F fr mem n) (tupleO S' F' (fr + k) mem' (n + k)) := by
 unfold tupleO
 refine rel_if (H.is n _) (fun _ => rel_ok (by simp [node_on, Nat.add_right_comm]) (by omega)) (fun _ => ?_)
 refine rel_bind (rowO_on H hF [44] hm n) (fun l m _ => ?_)
 exact rel_bind (need_on H [41] m) (fun u m2 _ => rel_ok (by simp [oneOr_on]) rfl)
theorem plain_on (H : Sh S S' k) {F F' : Nat} (hF : F ≤ F') (nm : Int) {mem mem' : Nat → Out Pb} (hm : ∀ n, Rel k (Pb.on k) (mem n) (mem' (n + k))) (n : Nat) : Rel k (Pb.on k) (plainO S F nm mem n) (plainO S' F' nm mem' (n + k)) := by
 unfold plainO
 refine rel_if (by rw [H.kd]) (fun _ => rel_ok (by simp [node_on, Nat.add_right_comm]) (by omega)) (fun _ => rel_if (by rw [H.kd]) (fun _ => rel_ok (by simp [node_on, Nat.add_right_comm]) (by omega)) (fun _ => rel_if (H.is n _) (fun _ => ?_) (fun _ => ?_)))
 ·rw [Nat.add_right_comm]; exact tuple_on H hF n hm (n + 1)
 ·exact rel_bind (value_on H n) (fun m m2 _ => rel_ok (by simp [node_on, Nat.add_right_comm]) (by omega))
theorem atomicPat_on (H : Sh S S' k) {F F' : Nat} (hF : F ≤ F') {rec rec' : Nt → Nat → Nat → Out Pb} {d : Nat} (hr : ∀ nt n, Rel k (Pb.on k) (rec nt d n) (rec' nt d (n + k))) (n : Nat) : Rel k (Pb.on k) (atomicPatO S F rec d n) (atomicPatO S' F' rec' d (n + k)) := by
 unfold atomicPatO
 refine rel_if (H.is n _) (fun _ => rel_ok (by simp [node_on, Nat.add_right_comm]) (by omega)) (fun _ => rel_if (by rw [H.kd]) (fun _ => ?_) (fun _ => plain_on H hF 39 (hr .pat) n))
 exact rel_bind (path_on H [7] n) (fun p m _ => rel_ok (by simp [node_on, Nat.add_right_comm]) (by omega))
theorem pat_on (H : Sh S S' k) {F F' : Nat} (hF : F ≤ F') {rec rec' : Nt → Nat → Nat → Out Pb} {d : Nat} (hr : ∀ nt n, Rel k (Pb.on k) (rec nt d n) (rec' nt d (n + k))) (n : Nat) : Rel k (Pb.on k) (patO S F rec d n) (patO S' F' rec' d (n + k)) := by
 unfold patO
 refine rel_if (by rw [H.kd, show n + k + 1 = n + 1 + k by omega, H.is]) (fun _ => ?_) (fun _ => rel_if (by rw [H.kd]) (fun _ => ?_) (fun _ => atomicPat_on H hF hr n))
 ·rw [show n + k + 2 = n + 2 + k by omega]
  exact rel_bind (hr .pat (n + 2)) (fun c m2 _ => rel_ok (by simp [node_on, Nat.add_right_comm]) (by omega))
 ·refine rel_bind (path_on H [7] n) (fun p m _ => rel_if (H.begins _ m) (fun _ => ?_) (fun _ => rel_ok (by simp [node_on, Nat.add_right_comm]) (by omega)))
  exact rel_bind (atomicPat_on H hF hr m) (fun c m2 _ => rel_ok (by simp [node_on, Nat.add_right_comm]) (by omega))
theorem decsL_on (H : Sh S S' k) {F F' : Nat} (hF : F ≤ F') {rec rec' : Nt → Nat → Nat → Out Pb} {d : Nat} (hr : ∀ nt n, Rel k (Pb.on k) (rec nt d n) (rec' nt d (n + k))) (a : Nat) : ∀ (f f' : Nat) (acc : List Pb) (n : Nat), f ≤ f' → Rel k (List.map (Pb.on k)) (decsL S rec d a f acc n) (decsL S' rec' d a f' (acc.map (Pb.on k)) (n + k)) := by
 intro f
 induction f with
 | zero => intro f' acc n _ h; exact absurd rfl h
 | succ f ih =>
  intro f' acc n hf
  obtain ⟨q, rfl⟩ : ∃ q, f' = q + 1 := ⟨f' - 1, by omega⟩
  unfold decsL
  refine rel_if (H.is n _) (fun _ => ?_) (fun _ => rel_if (H.declares 2 n) (fun _ => ?_) (fun _ => rel_ok rfl rfl))
  ·rw [Nat.add_right_comm]; exact ih q acc (n + 1) (by omega)
  ·refine rel_bind (hr (.dec a) n) (fun b m _ => ?_)
   have := ih q (acc ++ [b]) m (by omega)
   simpa using this
theorem decs_on (H : Sh S S' k) {F F' : Nat} (hF : F ≤ F') {rec rec' : Nt → Nat → Nat → Out Pb} {d : Nat} (hr : ∀ nt n, Rel k (Pb.on k) (rec nt d n) (rec' nt d (n + k))) (a n : Nat) : Rel k (List.map (Pb.on k)) (decsO S F rec d a n) (decsO S' F' rec' d a (n + k)) := by
 exact decsL_on H hF hr a F F' [] n hF
theorem within_on (H : Sh S S' k) {F F' : Nat} (hF : F ≤ F') {rec rec' : Nt → Nat → Nat → Out Pb} {d : Nat} (hr : ∀ nt n, Rel k (Pb.on k) (rec nt d n) (rec' nt d (n + k))) (a n : Nat) : Rel k (Pb.on k) (withinO S F rec d a n) (withinO S' F' rec' d a (n + k)) := by
 unfold withinO
 exact rel_bind (decs_on H hF hr a n) (fun l m _ => rel_ok (by simp [node_on, Nat.add_right_comm]) (by omega))
theorem atom_on (H : Sh S S' k) {F F' : Nat} (hF : F ≤ F') {rec rec' : Nt → Nat → Nat → Out Pb} {d : Nat} (hr : ∀ nt n, Rel k (Pb.on k) (rec nt d n) (rec' nt d (n + k))) (n : Nat) : Rel k (Pb.on k) (atomO S F rec d n) (atomO S' F' rec' d (n + k)) := by
 unfold atomO
 refine rel_if (by rw [H.kd]) (fun _ => ?_) (fun _ => rel_if (H.is n _) (fun _ => ?_) (fun _ => plain_on H hF 28 (hr .exp) n))
 ·refine rel_bind (path_on H [7, 6] n) (fun p m hp => ?_)
  have := path_pos hp
  rw [show m + k - 1 = m - 1 + k by omega, H.kd]
  exact rel_if rfl (fun _ => rel_ok (by simp [node_on, Nat.add_right_comm]) (by omega)) (fun _ => rel_ok (by simp [node_on, Nat.add_right_comm]) (by omega))
 ·rw [Nat.add_right_comm]
  refine rel_bind (within_on H hF hr 0 (n + 1)) (fun ds m _ => ?_)
  refine rel_bind (need_on H _ m) (fun u m2 _ => ?_)
  refine rel_bind (hr .exp m2) (fun e m3 _ => ?_)
  exact rel_bind (need_on H _ m3) (fun u m4 _ => rel_ok (by simp [node_on, Nat.add_right_comm]) (by omega))
theorem callL_on (H : Sh S S' k) {F F' : Nat} (hF : F ≤ F') {rec rec' : Nt → Nat → Nat → Out Pb} {d : Nat} (hr : ∀ nt n, Rel k (Pb.on k) (rec nt d n) (rec' nt d (n + k))) : ∀ (f f' : Nat) (acc : List Pb) (n : Nat), f ≤ f' → Rel k (List.map (Pb.on k)) (callL S F rec d f acc n) (callL S' F' rec' d f' (acc.map (Pb.on k)) (n + k)) := by
 intro f
 induction f with
 | zero => intro f' acc n _ h; exact absurd rfl h
 | succ f ih =>
  intro f' acc n hf
  obtain ⟨q, rfl⟩ : ∃ q, f' = q + 1 := ⟨f' - 1, by omega⟩
  unfold callL
  refine rel_if (H.begins _ n) (fun _ => ?_) (fun _ => rel_ok rfl rfl)
  ·refine rel_bind (atom_on H hF hr n) (fun b m _ => ?_)
   have := ih q (acc ++ [b]) m (by omega)
   simpa using this
theorem call_on (H : Sh S S' k) {F F' : Nat} (hF : F ≤ F') {rec rec' : Nt → Nat → Nat → Out Pb} {d : Nat} (hr : ∀ nt n, Rel k (Pb.on k) (rec nt d n) (rec' nt d (n + k))) (n : Nat) : Rel k (Pb.on k) (callO S F rec d n) (callO S' F' rec' d (n + k)) := by
 unfold callO
 refine rel_bind (atom_on H hF hr n) (fun b m _ => ?_)
 exact rel_bind (callL_on H hF hr F F' [b] m hF) (fun l m2 _ => rel_ok (by simp [oneOr_on]) rfl)
abbrev onI (k : Nat) : List Nat × List Pb → List Nat × List Pb := fun l => (addL k l.1, l.2.map (Pb.on k))
theorem infixL_on (H : Sh S S' k) {F F' : Nat} (hF : F ≤ F') {rec rec' : Nt → Nat → Nat → Out Pb} {d : Nat} (hr : ∀ nt n, Rel k (Pb.on k) (rec nt d n) (rec' nt d (n + k))) : ∀ (f f' : Nat) (sg : List Nat) (acc : List Pb) (n : Nat), f ≤ f' → Rel k (onI k) (infixL S F rec d f sg acc n) (infixL S' F' rec' d f' (addL k sg) (acc.map (Pb.on k)) (n + k)) := by
 intro f
 induction f with
 | zero => intro f' sg acc n _ h; exact absurd rfl h
 | succ f ih =>
  intro f' sg acc n hf
  obtain ⟨q, rfl⟩ : ∃ q, f' = q + 1 := ⟨f' - 1, by omega⟩
  unfold infixL
  refine rel_if (by rw [H.kd]) (fun _ => ?_) (fun _ => rel_ok rfl rfl)
  refine rel_bind (take_on H [9] n) (fun x m _ => ?_)
  refine rel_bind (call_on H hF hr m) (fun b m2 _ => ?_)
  have := ih q (sg ++ [x]) (acc ++ [b]) m2 (by omega)
  simpa [addL] using this
theorem infix_on (H : Sh S S' k) {F F' : Nat} (hF : F ≤ F') {rec rec' : Nt → Nat → Nat → Out Pb} {d : Nat} (hr : ∀ nt n, Rel k (Pb.on k) (rec nt d n) (rec' nt d (n + k))) (n : Nat) : Rel k (Pb.on k) (infixO S F rec d n) (infixO S' F' rec' d (n + k)) := by
 unfold infixO
 refine rel_bind (call_on H hF hr n) (fun b m _ => ?_)
 exact rel_bind (infixL_on H hF hr F F' [] [b] m hF) (fun l m2 _ => rel_ok (by simp [oneOr_on, onI]) rfl)
theorem clause_on (H : Sh S S' k) {F F' : Nat} (hF : F ≤ F') {rec rec' : Nt → Nat → Nat → Out Pb} {d : Nat} (hr : ∀ nt n, Rel k (Pb.on k) (rec nt d n) (rec' nt d (n + k))) (a : Int) (fr n : Nat) : Rel k (Pb.on k) (clauseO S rec d a fr n) (clauseO S' rec' d a (fr + k) (n + k)) := by
 unfold clauseO
 refine rel_bind (hr .pat n) (fun p m _ => ?_)
 refine rel_bind (need_on H _ m) (fun u m2 _ => ?_)
 exact rel_bind (hr .exp m2) (fun e m3 _ => rel_ok (by simp [node_on, Nat.add_right_comm]) (by omega))
theorem exp_on (H : Sh S S' k) {F F' : Nat} (hF : F ≤ F') {rec rec' : Nt → Nat → Nat → Out Pb} {d : Nat} (hr : ∀ nt n, Rel k (Pb.on k) (rec nt d n) (rec' nt d (n + k))) (n : Nat) : Rel k (Pb.on k) (expO S F rec d n) (expO S' F' rec' d (n + k)) := by
 unfold expO
 refine rel_if (H.is n _) (fun _ => ?_) (fun _ => rel_if (H.is n _) (fun _ => ?_) (fun _ => rel_if (H.is n _) (fun _ => ?_) (fun _ => infix_on H hF hr n)))
 ·rw [Nat.add_right_comm]
  refine rel_bind (hr .exp (n + 1)) (fun a m _ => ?_)
  refine rel_bind (need_on H _ m) (fun u m2 _ => ?_)
  refine rel_bind (hr .exp m2) (fun b m3 _ => ?_)
  refine rel_bind (need_on H _ m3) (fun u m4 _ => ?_)
  exact rel_bind (hr .exp m4) (fun c m5 _ => rel_ok (by simp [node_on, Nat.add_right_comm]) (by omega))
 ·rw [Nat.add_right_comm]
  refine rel_bind (hr .exp (n + 1)) (fun a m _ => ?_)
  refine rel_bind (need_on H _ m) (fun u m2 _ => ?_)
  exact rel_bind (rowO_on H hF _ (fun n => clause_on H hF hr 33 n n) m2) (fun l m3 _ => rel_ok (by simp [node_on, Nat.add_right_comm]) (by omega))
 ·rw [Nat.add_right_comm]
  exact clause_on H hF hr 34 n (n + 1)
theorem varsL_on (H : Sh S S' k) : ∀ (f f' n : Nat), f ≤ f' → Rel k id (varsL S f n) (varsL S' f' (n + k)) := by
 intro f
 induction f with
 | zero => intro f' n _ h; exact absurd rfl h
 | succ f ih =>
  intro f' n hf
  obtain ⟨q, rfl⟩ : ∃ q, f' = q + 1 := ⟨f' - 1, by omega⟩
  unfold varsL
  refine rel_if (H.is n _) (fun _ => ?_) (fun _ => rel_ok rfl rfl)
  rw [Nat.add_right_comm]
  exact rel_bind (take_on H [8] (n + 1)) (fun x m _ => ih q m (by omega))
theorem typeName_on (H : Sh S S' k) {F F' : Nat} (hF : F ≤ F') (n : Nat) : Rel k (addN k) (typeNameO S F n) (typeNameO S' F' (n + k)) := by
 unfold typeNameO
 refine rel_if (by rw [H.kd]) (fun _ => ?_) (fun _ => rel_if (H.is n _) (fun _ => ?_) (fun _ => take_on H [6] n))
 ·rw [Nat.add_right_comm]; exact take_on H [6] (n + 1)
 ·rw [Nat.add_right_comm]
  refine rel_bind (take_on H [8] (n + 1)) (fun x m _ => ?_)
  refine rel_bind (varsL_on H F F' m hF) (fun u m2 _ => ?_)
  exact rel_bind (need_on H _ m2) (fun u m3 _ => take_on H [6] m3)
theorem con_on (H : Sh S S' k) {F F' : Nat} (hF : F ≤ F') {rec rec' : Nt → Nat → Nat → Out Pb} {d : Nat} (hr : ∀ nt n, Rel k (Pb.on k) (rec nt d n) (rec' nt d (n + k))) (n : Nat) : Rel k (Pb.on k) (conO S rec d n) (conO S' rec' d (n + k)) := by
 unfold conO
 refine rel_bind (take_on H [7] n) (fun x m _ => rel_if (H.is m _) (fun _ => ?_) (fun _ => rel_ok (by simp [node_on, Nat.add_right_comm]) (by omega)))
 rw [Nat.add_right_comm]
 exact rel_bind (hr .ty (m + 1)) (fun c m2 _ => rel_ok (by simp [node_on, Nat.add_right_comm]) (by omega))
theorem dbind_on (H : Sh S S' k) {F F' : Nat} (hF : F ≤ F') {rec rec' : Nt → Nat → Nat → Out Pb} {d : Nat} (hr : ∀ nt n, Rel k (Pb.on k) (rec nt d n) (rec' nt d (n + k))) (n : Nat) : Rel k (Pb.on k) (dbindO S F rec d n) (dbindO S' F' rec' d (n + k)) := by
 unfold dbindO
 refine rel_bind (typeName_on H hF n) (fun x m _ => ?_)
 refine rel_bind (need_on H _ m) (fun u m2 _ => ?_)
 exact rel_bind (rowO_on H hF _ (fun n => con_on H hF hr n) m2) (fun l m3 _ => rel_ok (by simp [node_on, Nat.add_right_comm]) (by omega))
theorem datatypes_on (H : Sh S S' k) {F F' : Nat} (hF : F ≤ F') {rec rec' : Nt → Nat → Nat → Out Pb} {d : Nat} (hr : ∀ nt n, Rel k (Pb.on k) (rec nt d n) (rec' nt d (n + k))) (fr n : Nat) : Rel k (Pb.on k) (datatypesO S F rec d fr n) (datatypesO S' F' rec' d (fr + k) (n + k)) := by
 unfold datatypesO
 exact rel_bind (rowO_on H hF _ (fun n => dbind_on H hF hr n) n) (fun l m3 _ => rel_ok (by simp [node_on, Nat.add_right_comm]) (by omega))
theorem spec_on (H : Sh S S' k) {F F' : Nat} (hF : F ≤ F') {rec rec' : Nt → Nat → Nat → Out Pb} {d : Nat} (hr : ∀ nt n, Rel k (Pb.on k) (rec nt d n) (rec' nt d (n + k))) (n : Nat) : Rel k (Pb.on k) (specO S F rec d n) (specO S' F' rec' d (n + k)) := by
 unfold specO
 refine rel_if (H.is n _) (fun _ => ?_) (fun _ => rel_if (H.is n _) (fun _ => ?_) (fun _ => rel_if (H.is n _) (fun _ => ?_) (fun _ => rel_if (H.is n _) (fun _ => ?_) (fun _ => ?_))))
 ·rw [Nat.add_right_comm]
  refine rel_bind (value_on H (n + 1)) (fun x m _ => ?_)
  refine rel_bind (need_on H _ m) (fun u m2 _ => ?_)
  exact rel_bind (hr .ty m2) (fun c m3 _ => rel_ok (by simp [node_on, Nat.add_right_comm]) (by omega))
 ·rw [Nat.add_right_comm]
  refine rel_bind (typeName_on H hF (n + 1)) (fun x m _ => rel_if (H.is m _) (fun _ => ?_) (fun _ => rel_ok (by simp [node_on, Nat.add_right_comm]) (by omega)))
  rw [Nat.add_right_comm]
  exact rel_bind (hr .ty (m + 1)) (fun c m2 _ => rel_ok (by simp [node_on, Nat.add_right_comm]) (by omega))
 ·rw [Nat.add_right_comm]; exact datatypes_on H hF hr n (n + 1)
 ·rw [Nat.add_right_comm]
  refine rel_bind (take_on H [7] (n + 1)) (fun x m _ => ?_)
  refine rel_bind (need_on H _ m) (fun u m2 _ => ?_)
  exact rel_bind (hr .sig m2) (fun c m3 _ => rel_ok (by simp [node_on, Nat.add_right_comm]) (by omega))
 ·refine rel_bind (need_on H _ n) (fun u m2 _ => ?_)
  exact rel_bind (hr .sig m2) (fun c m3 _ => rel_ok (by simp [node_on, Nat.add_right_comm]) (by omega))
theorem specsL_on (H : Sh S S' k) {F F' : Nat} (hF : F ≤ F') {rec rec' : Nt → Nat → Nat → Out Pb} {d : Nat} (hr : ∀ nt n, Rel k (Pb.on k) (rec nt d n) (rec' nt d (n + k))) : ∀ (f f' : Nat) (acc : List Pb) (n : Nat), f ≤ f' → Rel k (List.map (Pb.on k)) (specsL S F rec d f acc n) (specsL S' F' rec' d f' (acc.map (Pb.on k)) (n + k)) := by
 intro f
 induction f with
 | zero => intro f' acc n _ h; exact absurd rfl h
 | succ f ih =>
  intro f' acc n hf
  obtain ⟨q, rfl⟩ : ∃ q, f' = q + 1 := ⟨f' - 1, by omega⟩
  unfold specsL
  refine rel_if (H.is n _) (fun _ => rel_ok rfl (by omega)) (fun _ => rel_if (H.is n _) (fun _ => ?_) (fun _ => ?_))
  ·rw [Nat.add_right_comm]; exact ih q acc (n + 1) (by omega)
  ·refine rel_bind (spec_on H hF hr n) (fun b m _ => ?_)
   have := ih q (acc ++ [b]) m (by omega)
   simpa using this
theorem bareSig_on (H : Sh S S' k) {F F' : Nat} (hF : F ≤ F') {rec rec' : Nt → Nat → Nat → Out Pb} {d : Nat} (hr : ∀ nt n, Rel k (Pb.on k) (rec nt d n) (rec' nt d (n + k))) (n : Nat) : Rel k (Pb.on k) (bareSigO S F rec d n) (bareSigO S' F' rec' d (n + k)) := by
 unfold bareSigO
 refine rel_if (H.is n _) (fun _ => ?_) (fun _ => ?_)
 ·rw [Nat.add_right_comm]
  exact rel_bind (specsL_on H hF hr F F' [] (n + 1) hF) (fun l m _ => rel_ok (by simp [node_on, Nat.add_right_comm]) (by omega))
 ·exact rel_bind (take_on H [7] n) (fun x m _ => rel_ok (by simp [node_on, Nat.add_right_comm]) (by omega))
theorem whereL_on (H : Sh S S' k) {F F' : Nat} (hF : F ≤ F') {rec rec' : Nt → Nat → Nat → Out Pb} {d : Nat} (hr : ∀ nt n, Rel k (Pb.on k) (rec nt d n) (rec' nt d (n + k))) (fr : Nat) : ∀ (f f' : Nat) (b : Pb) (n : Nat), f ≤ f' → Rel k (Pb.on k) (whereL S rec d fr f b n) (whereL S' rec' d (fr + k) f' (b.on k) (n + k)) := by
 intro f
 induction f with
 | zero => intro f' b n _ h; exact absurd rfl h
 | succ f ih =>
  intro f' b n hf
  obtain ⟨q, rfl⟩ : ∃ q, f' = q + 1 := ⟨f' - 1, by omega⟩
  unfold whereL
  refine rel_if (H.is n _) (fun _ => ?_) (fun _ => rel_ok rfl rfl)
  rw [Nat.add_right_comm]
  refine rel_bind (need_on H _ (n + 1)) (fun u m _ => ?_)
  refine rel_bind (typePath_on H m) (fun p m2 _ => ?_)
  refine rel_bind (need_on H _ m2) (fun u m3 _ => ?_)
  refine rel_bind (hr .ty m3) (fun c m4 _ => ?_)
  have := ih q (node 21 fr m4 p [b, c]) m4 (by omega)
  rwa [node_on] at this
theorem sig_on (H : Sh S S' k) {F F' : Nat} (hF : F ≤ F') {rec rec' : Nt → Nat → Nat → Out Pb} {d : Nat} (hr : ∀ nt n, Rel k (Pb.on k) (rec nt d n) (rec' nt d (n + k))) (n : Nat) : Rel k (Pb.on k) (sigO S F rec d n) (sigO S' F' rec' d (n + k)) := by
 unfold sigO
 exact rel_bind (bareSig_on H hF hr n) (fun b m _ => whereL_on H hF hr n F F' b m hF)
theorem bareStr_on (H : Sh S S' k) {F F' : Nat} (hF : F ≤ F') {rec rec' : Nt → Nat → Nat → Out Pb} {d : Nat} (hr : ∀ nt n, Rel k (Pb.on k) (rec nt d n) (rec' nt d (n + k))) (n : Nat) : Rel k (Pb.on k) (bareStrO S F rec d n) (bareStrO S' F' rec' d (n + k)) := by
 unfold bareStrO
 refine rel_if (H.is n _) (fun _ => ?_) (fun _ => rel_if (by rw [H.kd, show n + k + 1 = n + 1 + k by omega, H.is]) (fun _ => ?_) (fun _ => ?_))
 ·rw [Nat.add_right_comm]
  refine rel_bind (decs_on H hF hr 1 (n + 1)) (fun l m _ => ?_)
  exact rel_bind (need_on H _ m) (fun u m2 _ => rel_ok (by simp [node_on, Nat.add_right_comm]) (by omega))
 ·rw [show n + k + 2 = n + 2 + k by omega]
  refine rel_bind (hr .str (n + 2)) (fun c m2 _ => ?_)
  exact rel_bind (need_on H _ m2) (fun u m3 _ => rel_ok (by simp [node_on, Nat.add_right_comm]) (by omega))
 ·exact rel_bind (path_on H [7] n) (fun p m _ => rel_ok (by simp [node_on, Nat.add_right_comm]) (by omega))
theorem sealL_on (H : Sh S S' k) {F F' : Nat} (hF : F ≤ F') {rec rec' : Nt → Nat → Nat → Out Pb} {d : Nat} (hr : ∀ nt n, Rel k (Pb.on k) (rec nt d n) (rec' nt d (n + k))) (fr : Nat) : ∀ (f f' : Nat) (b : Pb) (n : Nat), f ≤ f' → Rel k (Pb.on k) (sealL S rec d fr f b n) (sealL S' rec' d (fr + k) f' (b.on k) (n + k)) := by
 intro f
 induction f with
 | zero => intro f' b n _ h; exact absurd rfl h
 | succ f ih =>
  intro f' b n hf
  obtain ⟨q, rfl⟩ : ∃ q, f' = q + 1 := ⟨f' - 1, by omega⟩
  unfold sealL
  rw [H.colon]
  refine rel_if rfl (fun _ => rel_ok rfl rfl) (fun _ => ?_)
  rw [Nat.add_right_comm]
  refine rel_bind (hr .sig (n + 1)) (fun c m _ => ?_)
  have := ih q (marked ((S.colon n).1 : Int) (node 18 fr m [] [b, c])) m (by omega)
  rwa [marked_on, node_on] at this
theorem str_on (H : Sh S S' k) {F F' : Nat} (hF : F ≤ F') {rec rec' : Nt → Nat → Nat → Out Pb} {d : Nat} (hr : ∀ nt n, Rel k (Pb.on k) (rec nt d n) (rec' nt d (n + k))) (n : Nat) : Rel k (Pb.on k) (strO S F rec d n) (strO S' F' rec' d (n + k)) := by
 unfold strO
 exact rel_bind (bareStr_on H hF hr n) (fun b m _ => sealL_on H hF hr n F F' b m hF)
abbrev onB (k : Nat) : Nat × List Pb → Nat × List Pb := fun l => (l.1, l.2.map (Pb.on k))
theorem body_on (H : Sh S S' k) {F F' : Nat} (hF : F ≤ F') {rec rec' : Nt → Nat → Nat → Out Pb} {d : Nat} (hr : ∀ nt n, Rel k (Pb.on k) (rec nt d n) (rec' nt d (n + k))) (n : Nat) : Rel k (onB k) (bodyO S rec d n) (bodyO S' rec' d (n + k)) := by
 unfold bodyO
 rw [H.colon]
 refine rel_bind (g := List.map (Pb.on k)) (rel_if rfl (fun _ => rel_ok rfl rfl) (fun _ => ?_)) (fun l m _ => ?_)
 ·rw [Nat.add_right_comm]
  exact rel_bind (hr .sig (n + 1)) (fun c m _ => rel_ok rfl rfl)
 ·refine rel_bind (need_on H _ m) (fun u m2 _ => ?_)
  exact rel_bind (hr .str m2) (fun c m3 _ => rel_ok (by simp [onB]) rfl)
theorem structure_on (H : Sh S S' k) {F F' : Nat} (hF : F ≤ F') {rec rec' : Nt → Nat → Nat → Out Pb} {d : Nat} (hr : ∀ nt n, Rel k (Pb.on k) (rec nt d n) (rec' nt d (n + k))) (fr n : Nat) : Rel k (Pb.on k) (structureO S rec d fr n) (structureO S' rec' d (fr + k) (n + k)) := by
 unfold structureO
 refine rel_bind (take_on H [7] n) (fun x m _ => ?_)
 exact rel_bind (body_on H hF hr m) (fun l m2 _ => rel_ok (by simp [node_on, marked_on, onB]) rfl)
theorem functor_on (H : Sh S S' k) {F F' : Nat} (hF : F ≤ F') {rec rec' : Nt → Nat → Nat → Out Pb} {d : Nat} (hr : ∀ nt n, Rel k (Pb.on k) (rec nt d n) (rec' nt d (n + k))) (fr n : Nat) : Rel k (Pb.on k) (functorO S rec d fr n) (functorO S' rec' d (fr + k) (n + k)) := by
 unfold functorO
 refine rel_bind (take_on H [7] n) (fun x m _ => ?_)
 refine rel_bind (need_on H _ m) (fun u m2 _ => ?_)
 refine rel_bind (take_on H [7] m2) (fun y m3 _ => ?_)
 refine rel_bind (need_on H _ m3) (fun u m4 _ => ?_)
 refine rel_bind (hr .sig m4) (fun c m5 _ => ?_)
 refine rel_bind (need_on H _ m5) (fun u m6 _ => ?_)
 exact rel_bind (body_on H hF hr m6) (fun l m7 _ => rel_ok (by simp [node_on, marked_on, onB]) rfl)
theorem funL_on (H : Sh S S' k) {F F' : Nat} (hF : F ≤ F') {rec rec' : Nt → Nat → Nat → Out Pb} {d : Nat} (hr : ∀ nt n, Rel k (Pb.on k) (rec nt d n) (rec' nt d (n + k))) : ∀ (f f' : Nat) (acc : List Pb) (n : Nat), f ≤ f' → Rel k (List.map (Pb.on k)) (funL S F rec d f acc n) (funL S' F' rec' d f' (acc.map (Pb.on k)) (n + k)) := by
 intro f
 induction f with
 | zero => intro f' acc n _ h; exact absurd rfl h
 | succ f ih =>
  intro f' acc n hf
  obtain ⟨q, rfl⟩ : ∃ q, f' = q + 1 := ⟨f' - 1, by omega⟩
  unfold funL
  refine rel_if (H.begins _ n) (fun _ => ?_) (fun _ => rel_ok rfl rfl)
  ·refine rel_bind (atomicPat_on H hF hr n) (fun b m _ => ?_)
   have := ih q (acc ++ [b]) m (by omega)
   simpa using this
theorem function_on (H : Sh S S' k) {F F' : Nat} (hF : F ≤ F') {rec rec' : Nt → Nat → Nat → Out Pb} {d : Nat} (hr : ∀ nt n, Rel k (Pb.on k) (rec nt d n) (rec' nt d (n + k))) (n : Nat) : Rel k (Pb.on k) (functionO S F rec d n) (functionO S' F' rec' d (n + k)) := by
 unfold functionO
 refine rel_bind (value_on H n) (fun x m _ => ?_)
 refine rel_bind (atomicPat_on H hF hr m) (fun b m2 _ => ?_)
 refine rel_bind (funL_on H hF hr F F' [b] m2 hF) (fun l m3 _ => ?_)
 refine rel_bind (need_on H _ m3) (fun u m4 _ => ?_)
 exact rel_bind (hr .exp m4) (fun c m5 _ => rel_ok (by simp [node_on, Nat.add_right_comm]) (by omega))
theorem local_on (H : Sh S S' k) {F F' : Nat} (hF : F ≤ F') {rec rec' : Nt → Nat → Nat → Out Pb} {d : Nat} (hr : ∀ nt n, Rel k (Pb.on k) (rec nt d n) (rec' nt d (n + k))) (fr a n : Nat) : Rel k (Pb.on k) (localO S F rec d fr a n) (localO S' F' rec' d (fr + k) a (n + k)) := by
 unfold localO
 refine rel_bind (within_on H hF hr a n) (fun x m _ => ?_)
 refine rel_bind (need_on H _ m) (fun u m2 _ => ?_)
 refine rel_bind (within_on H hF hr a m2) (fun x m3 _ => ?_)
 exact rel_bind (need_on H _ m3) (fun u m4 _ => rel_ok (by simp [node_on, Nat.add_right_comm]) (by omega))
theorem decB_on (H : Sh S S' k) {F F' : Nat} (hF : F ≤ F') {rec rec' : Nt → Nat → Nat → Out Pb} {d : Nat} (hr : ∀ nt n, Rel k (Pb.on k) (rec nt d n) (rec' nt d (n + k))) (a n : Nat) : Rel k (Pb.on k) (decB S F rec d a n) (decB S' F' rec' d a (n + k)) := by
 unfold decB
 rw [Nat.add_right_comm]
 refine rel_if (H.is n _) (fun _ => ?_) (fun _ => rel_if (H.is n _) (fun _ => ?_) (fun _ => rel_if (H.is n _) (fun _ => ?_) (fun _ => rel_if (H.is n _) (fun _ => ?_) (fun _ => rel_if (H.is n _) (fun _ => ?_) (fun _ => rel_if (H.is n _) (fun _ => ?_) (fun _ => rel_if (H.is n _) (fun _ => ?_) (fun _ => rel_if (H.is n _) (fun _ => ?_) (fun _ => ?_))))))))
 ·refine rel_bind (hr .pat (n + 1)) (fun p m _ => ?_)
  refine rel_bind (need_on H _ m) (fun u m2 _ => ?_)
  exact rel_bind (hr .exp m2) (fun c m3 _ => rel_ok (by simp [node_on, Nat.add_right_comm]) (by omega))
 ·exact rel_bind (rowO_on H hF _ (fun n => function_on H hF hr n) (n + 1)) (fun l m _ => rel_ok (by simp [node_on, Nat.add_right_comm]) (by omega))
 ·refine rel_bind (typeName_on H hF (n + 1)) (fun x m _ => ?_)
  refine rel_bind (need_on H _ m) (fun u m2 _ => ?_)
  exact rel_bind (hr .ty m2) (fun c m3 _ => rel_ok (by simp [node_on, Nat.add_right_comm]) (by omega))
 ·exact datatypes_on H hF hr n (n + 1)
 ·exact structure_on H hF hr n (n + 1)
 ·refine rel_bind (take_on H [7] (n + 1)) (fun x m _ => ?_)
  refine rel_bind (need_on H _ m) (fun u m2 _ => ?_)
  exact rel_bind (hr .sig m2) (fun c m3 _ => rel_ok (by simp [node_on, Nat.add_right_comm]) (by omega))
 ·exact functor_on H hF hr n (n + 1)
 ·exact rel_bind (path_on H [7] (n + 1)) (fun p m _ => rel_ok (by simp [node_on, Nat.add_right_comm]) (by omega))
 ·exact local_on H hF hr n a (n + 1)
theorem dec_on (H : Sh S S' k) {F F' : Nat} (hF : F ≤ F') {rec rec' : Nt → Nat → Nat → Out Pb} {d : Nat} (hr : ∀ nt n, Rel k (Pb.on k) (rec nt d n) (rec' nt d (n + k))) (a n : Nat) : Rel k (Pb.on k) (decO S F rec d a n) (decO S' F' rec' d a (n + k)) := by
 unfold decO
 exact rel_if (H.declares a n) (fun _ => decB_on H hF hr a n) (fun _ => fun _ => rfl)
theorem parts_on (H : Sh S S' k) : ∀ (f f' : Nat), f ≤ f' → ∀ nt d n, Rel k (Pb.on k) (parts S f nt d n) (parts S' f' nt d (n + k)) := by
 intro f
 induction f with
 | zero => intro f' _ nt d n h; exact absurd rfl h
 | succ f ih =>
  intro f' hf nt d n
  obtain ⟨q, rfl⟩ : ∃ q, f' = q + 1 := ⟨f' - 1, by omega⟩
  unfold parts
  refine rel_if rfl (fun _ => fun _ => rfl) (fun _ => ?_)
  have hq : f ≤ q := by omega
  have hr := fun nt n => ih q hq nt (d + 1) n
  cases nt with
  | exp => exact exp_on H hq hr n
  | pat => exact pat_on H hq hr n
  | ty => exact ty_on H hq hr n
  | sig => exact sig_on H hq hr n
  | str => exact str_on H hq hr n
  | dec a => exact dec_on H hq hr a n
end
end Go.Proofs.YtkjgkchdkeggoaaGreatDoor

namespace Go.Proofs.YtkjgkchdkeggoaaGreatDoor
open Go.RowKit
set_option maxRecDepth 20000
set_option linter.unusedVariables false
set_option linter.unusedSimpArgs false

/-- Tokens from the place a on, each where the one ahead ends, up to the end at n. -/
def Chain (n : Nat) : Nat → List Tok → Prop
 | _, [] => False
 | a, t :: r => (r = [] ∧ t = ⟨0, n, n⟩ ∧ a = n) ∨ (t.k ≠ 0 ∧ t.a = a ∧ a < t.e ∧ t.e ≤ n ∧ Chain n t.e r)
theorem restT_chain (s : ByteArray) (a : Nat) (ha : a ≤ s.size) : Chain s.size a (restT s a) := by
 obtain ⟨m, hm⟩ : ∃ m, m = s.size - a := ⟨_, rfl⟩
 induction m using Nat.strongRecOn generalizing a with
 | _ m ih =>
  by_cases h : a < s.size
  ·have hb := tokAt_bound s a h
   rw [restT_at s a h]
   refine .inr ⟨?_, ?_, hb.1, hb.2, ih (s.size - (tokAt s a).e) (by omega) _ hb.2 rfl⟩
   ·rw [tokAt_in s a h]; exact tokN_kind _ (by rw [drop_at s a h]; simp)
   ·rw [tokAt_in s a h]
  ·have : a = s.size := by omega
   subst this
   rw [restT_end, tokAt_end]
   exact .inl ⟨rfl, rfl, rfl⟩
/-- Where token i begins; n behind the last. -/
def posT (n : Nat) (l : List Tok) (i : Nat) : Nat := match l[i]? with
 | some t => t.a
 | none => n
theorem Chain.length {n a : Nat} {l : List Tok} (h : Chain n a l) : 0 < l.length ∧ l.length ≤ n - a + 1 ∧ a ≤ n := by
 induction l generalizing a with
 | nil => exact h.elim
 | cons t r ih =>
  rcases h with ⟨h1, _, h2⟩ | ⟨_, _, h3, h4, h5⟩
  ·subst h1; simp; omega
  ·have := ih h5; simp; omega
theorem Chain.pos0 {n a : Nat} {l : List Tok} (h : Chain n a l) : posT n l 0 = a := by
 cases l with
 | nil => exact h.elim
 | cons t r =>
  rcases h with ⟨_, h1, h2⟩ | ⟨_, h1, _⟩
  ·subst h1; simp [posT, h2]
  ·simpa [posT] using h1
theorem posT_end (n : Nat) (l : List Tok) : posT n l l.length = n := by simp [posT]
theorem posT_in (n : Nat) (l : List Tok) (i : Nat) (h : i < l.length) : posT n l i = l[i].a := by simp [posT, h]
theorem posT_cons (n : Nat) (t : Tok) (r : List Tok) (i : Nat) : posT n (t :: r) (i + 1) = posT n r i := by simp [posT]
theorem Chain.at {n a : Nat} {l : List Tok} (h : Chain n a l) (i : Nat) (hi : i < l.length) :
  l[i].a = posT n l i ∧ l[i].e = posT n l (i + 1) ∧ l[i].e ≤ n ∧ ((i + 1 = l.length ∧ l[i].k = 0 ∧ l[i].e = l[i].a) ∨ (i + 1 < l.length ∧ l[i].k ≠ 0 ∧ l[i].a < l[i].e)) := by
 refine ⟨(posT_in n l i hi).symm, ?_⟩
 induction l generalizing a i with
 | nil => exact h.elim
 | cons t r ih =>
  rcases h with ⟨h1, h2, h3⟩ | ⟨h1, h2, h3, h4, h5⟩
  ·subst h1
   have : i = 0 := by simp at hi; omega
   subst this
   subst h2
   simp [posT]
  ·cases i with
   | zero =>
    have hl := h5.length
    simp only [posT_cons, h5.pos0, List.getElem_cons_zero, List.length_cons]
    exact ⟨by first | trivial | rfl, h4, .inr ⟨by omega, h1, by omega⟩⟩
   | succ i =>
    have := ih h5 i (by simpa using hi)
    simp only [posT_cons, List.getElem_cons_succ, List.length_cons]
    refine ⟨this.1, this.2.1, ?_⟩
    rcases this.2.2 with ⟨e, f⟩ | ⟨e, f⟩
    ·exact .inl ⟨by omega, f⟩
    ·exact .inr ⟨by omega, f⟩
theorem scan_chain (s : ByteArray) : Chain s.size 0 (scanT s) := restT_chain s 0 (by omega)
end Go.Proofs.YtkjgkchdkeggoaaGreatDoor

namespace Go.Proofs.YtkjgkchdkeggoaaGreatDoor
open Go.RowKit
set_option maxRecDepth 20000
set_option linter.unusedVariables false
set_option linter.unusedSimpArgs false

theorem passN_take {σ : Type} (f : σ → UInt8 → σ × Bool) (q : σ) (l : List UInt8) (m : Nat) : passN f q (l.take m) = min m (passN f q l) := by
 induction l generalizing q m with
 | nil => simp [passN]
 | cons c r ih =>
  cases m with
  | zero => simp [passN]
  | succ m =>
   simp only [List.take_succ_cons, passN]
   cases (f q c).2
   ·simp
   ·simp only [cond_true, ih]; omega
theorem headB_take {l : List UInt8} {j : Nat} {x : Int} (h : headB l x = false) : headB (l.take j) x = false := by
 cases l with
 | nil => simp [headB]
 | cons c r => cases j with
  | zero => rfl
  | succ j => exact h
theorem headB_take_pos (l : List UInt8) (j : Nat) (x : Int) (h : 0 < j) : headB (l.take j) x = headB l x := by
 cases l with
 | nil => simp [headB]
 | cons c r => cases j with
  | zero => omega
  | succ j => rfl
theorem drop_take_self (l : List UInt8) (n q : Nat) : (l.take (n + q)).drop n = (l.drop n).take q := by
 rw [List.drop_take]; congr 1; omega
theorem quote_again (r : List UInt8) : quoteN (r.take ((quoteN r).2 - 1)) = quoteN r := by
 have hle := passN_le qF false r
 unfold quoteN
 simp only
 cases h : headB (r.drop (passN qF false r)) 34
 ·simp only [cond_false]
  have hm : passN qF false r + 1 + passN (pureF lineB) () (r.drop (passN qF false r)) - 1 = passN qF false r + passN (pureF lineB) () (r.drop (passN qF false r)) := by omega
  rw [hm, passN_take, Nat.min_eq_right (by omega), drop_take_self, headB_take h, passN_take, Nat.min_self]
  rfl
 ·simp only [cond_true]
  have hm : passN qF false r + 2 - 1 = passN qF false r + 1 := by omega
  rw [hm, passN_take, Nat.min_eq_right (by omega), drop_take_self, headB_take_pos _ _ _ (by omega), h]
  rfl
theorem note_again (l : List UInt8) (h : 0 < l.length) : noteN (l.take (noteN l).2) = noteN l := by
 have hle := passN_le nF (0, 0) l
 unfold noteN
 simp only
 cases e : (passN nF (0, 0) l == l.length)
 ·simp only [cond_false]
  have hne : ¬ passN nF (0, 0) l = l.length := by simpa using e
  rw [passN_take, Nat.min_eq_right (by omega), List.length_take, Nat.min_eq_left (by omega)]
  have : (passN nF (0, 0) l == passN nF (0, 0) l + 1) = false := by simp
  rw [this]
  rfl
 ·simp only [cond_true]
  have hq : passN nF (0, 0) l = l.length := by simpa using e
  rw [hq, List.take_length, hq]
  simp
theorem note_two (r : List UInt8) : 2 ≤ passN nF (0, 0) (40 :: 42 :: r) := by
 have h1 : nF (0, 0) 40 = ((0, 40), true) := by decide
 have h2 : nF (0, 40) 42 = ((1, 0), true) := by decide
 simp only [passN, h1, h2, cond_true]
 omega
theorem eqB_eq {c : UInt8} {n : UInt8} (h : eqB c (n.toNat : Int) = true) : c = n := by
 unfold eqB at h
 rw [u8_eq]
 simpa using h
/-- The token of a token's own bytes. -/
theorem tok_again (l : List UInt8) (h : l ≠ []) : tokN (l.take (tokN l).2) = tokN l := by
 cases l with
 | nil => exact absurd rfl h
 | cons c r =>
  have hb := tokN_bound (c :: r) (by simp)
  obtain ⟨m, hm⟩ : ∃ m, (tokN (c :: r)).2 = m + 1 := ⟨(tokN (c :: r)).2 - 1, by omega⟩
  have key : tokN ((c :: r).take (m + 1)) = bif blankB c then (1, passN (pureF blankB) () ((c :: r).take (m + 1)))
    else bif eqB c 34 then quoteN (r.take m)
    else bif eqB c 40 && headB (r.take m) 42 then noteN ((c :: r).take (m + 1))
    else bif restB c then (plainN (((c :: r).take (m + 1)).take (passN (pureF restB) () ((c :: r).take (m + 1)))), passN (pureF restB) () ((c :: r).take (m + 1)))
    else bif signB c then (plainN (((c :: r).take (m + 1)).take (passN (pureF signB) () ((c :: r).take (m + 1)))), passN (pureF signB) () ((c :: r).take (m + 1)))
    else (plainN (((c :: r).take (m + 1)).take 1), 1) := rfl
  have own : tokN (c :: r) = bif blankB c then (1, passN (pureF blankB) () (c :: r))
    else bif eqB c 34 then quoteN r
    else bif eqB c 40 && headB r 42 then noteN (c :: r)
    else bif restB c then (plainN ((c :: r).take (passN (pureF restB) () (c :: r))), passN (pureF restB) () (c :: r))
    else bif signB c then (plainN ((c :: r).take (passN (pureF signB) () (c :: r))), passN (pureF signB) () (c :: r))
    else (plainN ((c :: r).take 1), 1) := rfl
  rw [hm, key]
  rw [own] at hm ⊢
  clear key own hb h
  cases h1 : blankB c
  ·cases h2 : eqB c 34
   ·cases h3 : (eqB c 40 && headB r 42)
    ·have h3' : (eqB c 40 && headB (r.take m) 42) = false := by
      cases h4 : eqB c 40
      ·rfl
      ·rw [h4, Bool.true_and] at h3; rw [headB_take h3]; rfl
     cases h4 : restB c
     ·cases h5 : signB c
      ·simp only [h1, h2, h3, h4, h5, cond_false] at hm
       have : m = 0 := by omega
       subst this
       simp only [h3', cond_false]
       rfl
      ·simp only [h1, h2, h3, h4, h5, cond_false, cond_true] at hm
       simp only [h3', cond_false, cond_true]
       rw [passN_take, hm, Nat.min_self, List.take_take, Nat.min_self]
     ·simp only [h1, h2, h3, h4, cond_false, cond_true] at hm
      simp only [h3', cond_false, cond_true]
      rw [passN_take, hm, Nat.min_self, List.take_take, Nat.min_self]
    ·simp only [h1, h2, h3, cond_false, cond_true] at hm
     rw [Bool.and_eq_true] at h3
     have hc : c = 40 := eqB_eq (n := 40) h3.1
     cases r with
     | nil => exact absurd h3.2 (by simp [headB])
     | cons d t =>
      have hd : d = 42 := eqB_eq (n := 42) h3.2
      subst hc hd
      have h2 := note_two t
      have hm1 : 1 ≤ m := by
       unfold noteN at hm
       simp only at hm
       cases e : (passN nF (0, 0) (40 :: 42 :: t) == (40 :: 42 :: t).length) <;> rw [e] at hm <;> simp at hm <;> omega
      rw [headB_take_pos _ _ _ hm1, h3.1, h3.2]
      simp only [Bool.and_self, cond_true, cond_false]
      have := note_again (40 :: 42 :: t) (by simp)
      rw [hm] at this
      exact this
   ·simp only [h1, h2, cond_false, cond_true] at hm
    simp only [cond_false, cond_true]
    have := quote_again r
    rw [hm] at this
    exact this
  ·simp only [h1, cond_true] at hm
   simp only [cond_true]
   rw [passN_take, hm, Nat.min_self]
theorem scan_again (s : ByteArray) (a : Nat) (h : a < s.size) : scanT (s.extract (tokAt s a).a (tokAt s a).e) = [⟨(tokAt s a).k, 0, (tokAt s a).e - (tokAt s a).a⟩, ⟨0, (tokAt s a).e - (tokAt s a).a, (tokAt s a).e - (tokAt s a).a⟩] := by
 have hbo := tokAt_bound s a h
 have hne : s.data.toList.drop a ≠ [] := by rw [drop_at s a h]; simp
 have hta := tok_again (s.data.toList.drop a) hne
 rw [tokAt_in s a h] at hbo ⊢
 simp only at hbo ⊢
 generalize hT : tokN (s.data.toList.drop a) = T at *
 obtain ⟨k, n⟩ := T
 simp only at *
 rw [show a + n - a = n from by omega]
 have hd : (s.extract a (a + n)).data.toList = (s.data.toList.drop a).take n := extract_drop s a n
 have hsz : (s.extract a (a + n)).size = n := by simp; omega
 generalize s.extract a (a + n) = p at *
 have hp : 0 < p.size := by omega
 have e0 : tokAt p 0 = ⟨k, 0, n⟩ := by
  rw [tokAt_in p 0 hp, List.drop_zero, hd, hta, Nat.zero_add]
 unfold scanT
 rw [restT_at p 0 hp, e0]
 simp only
 rw [← hsz, restT_end, tokAt_end]
theorem restT_mem (s : ByteArray) (a : Nat) (ha : a ≤ s.size) : ∀ t ∈ restT s a, t.a ≤ s.size ∧ t = tokAt s t.a := by
 obtain ⟨m, hm⟩ : ∃ m, m = s.size - a := ⟨_, rfl⟩
 induction m using Nat.strongRecOn generalizing a with
 | _ m ih =>
  intro t ht
  by_cases h : a < s.size
  ·have hb := tokAt_bound s a h
   rw [restT_at s a h] at ht
   rcases List.mem_cons.1 ht with rfl | ht
   ·rw [show (tokAt s a).a = a by rw [tokAt_in s a h]]
    exact ⟨ha, rfl⟩
   ·exact ih (s.size - (tokAt s a).e) (by omega) _ hb.2 rfl t ht
  ·have : a = s.size := by omega
   subst this
   rw [restT_end] at ht
   have : t = tokAt s s.size := by simpa using ht
   subst this
   rw [tokAt_end]
   exact ⟨Nat.le_refl _, (tokAt_end s).symm⟩
theorem again_at (s : ByteArray) (t : Tok) (ht : t ∈ scanT s) (hk : t.k ≠ 0) : t.a < t.e ∧ t.e ≤ s.size ∧ scanT (s.extract t.a t.e) = [⟨t.k, 0, t.e - t.a⟩, ⟨0, t.e - t.a, t.e - t.a⟩] := by
 obtain ⟨h1, h2⟩ := restT_mem s 0 (by omega) t ht
 have hlt : t.a < s.size := by
  apply Decidable.byContradiction
  intro hn
  have : t.a = s.size := by omega
  rw [this, tokAt_end] at h2
  rw [h2] at hk
  exact hk rfl
 have hb := tokAt_bound s t.a hlt
 have := scan_again s t.a hlt
 rw [← h2] at this hb
 exact ⟨hb.1, hb.2, this⟩
end Go.Proofs.YtkjgkchdkeggoaaGreatDoor

namespace Go.Proofs.YtkjgkchdkeggoaaGreatDoor
open Go.RowKit
set_option maxRecDepth 20000
set_option linter.unusedVariables false
set_option linter.unusedSimpArgs false

theorem passN_more {σ : Type} (f : σ → UInt8 → σ × Bool) (q : σ) (l x : List UInt8) (h : passN f q l < l.length) : passN f q (l ++ x) = passN f q l := by
 induction l generalizing q with
 | nil => simp at h
 | cons c r ih =>
  simp only [List.cons_append, passN] at h ⊢
  cases hb : (f q c).2
  ·rfl
  ·rw [hb] at h
   simp only [cond_true, List.length_cons] at h ⊢
   rw [ih _ (by omega)]
theorem passN_pure_app (g : UInt8 → Bool) (l x : List UInt8) (h : passN (pureF g) () l = l.length) : passN (pureF g) () (l ++ x) = l.length + passN (pureF g) () x := by
 induction l with
 | nil => simp
 | cons c r ih =>
  simp only [List.cons_append, passN, pureF] at h ⊢
  cases hb : g c
  ·rw [hb] at h; simp at h
  ·rw [hb] at h
   simp only [cond_true, List.length_cons] at h ⊢
   rw [ih (by omega)]; omega
theorem passN_stop (g : UInt8 → Bool) (l : List UInt8) (T : List UInt8) (h : g 10 = false) : passN (pureF g) () (l ++ 10 :: T) = passN (pureF g) () l := by
 by_cases hlt : passN (pureF g) () l < l.length
 ·exact passN_more _ _ _ _ hlt
 ·have := passN_le (pureF g) () l
  have e : passN (pureF g) () l = l.length := by omega
  rw [passN_pure_app g l _ e, e]
  simp [passN, pureF, h]
theorem headB_app (r T : List UInt8) (x : Int) (h : headB r x = false) (hx : eqB 10 x = false) : headB (r ++ 10 :: T) x = false := by
 cases r with
 | nil => exact hx
 | cons c r => exact h
theorem headB_keep (r x : List UInt8) (n : Int) (h : headB r n = true) : headB (r ++ x) n = true := by
 cases r with
 | nil => simp [headB] at h
 | cons c r => exact h
theorem headB_len (r : List UInt8) (n : Int) (h : headB r n = true) : 0 < r.length := by
 cases r with
 | nil => simp [headB] at h
 | cons c r => simp
theorem take_app_le (l x : List UInt8) (n : Nat) (h : n ≤ l.length) : (l ++ x).take n = l.take n := List.take_append_of_le_length h
/-- A token that is not bad, and is no blank at the end, is the same with a line end behind it. -/
theorem tok_parted (R T : List UInt8) (hR : R ≠ []) (hk : (tokN R).1 ≠ 3) (hb : ¬ ((tokN R).1 = 1 ∧ (tokN R).2 = R.length)) : tokN (R ++ 10 :: T) = tokN R := by
 cases R with
 | nil => exact absurd rfl hR
 | cons c r =>
  have key : tokN ((c :: r) ++ 10 :: T) = bif blankB c then (1, passN (pureF blankB) () ((c :: r) ++ 10 :: T))
    else bif eqB c 34 then quoteN (r ++ 10 :: T)
    else bif eqB c 40 && headB (r ++ 10 :: T) 42 then noteN ((c :: r) ++ 10 :: T)
    else bif restB c then (plainN (((c :: r) ++ 10 :: T).take (passN (pureF restB) () ((c :: r) ++ 10 :: T))), passN (pureF restB) () ((c :: r) ++ 10 :: T))
    else bif signB c then (plainN (((c :: r) ++ 10 :: T).take (passN (pureF signB) () ((c :: r) ++ 10 :: T))), passN (pureF signB) () ((c :: r) ++ 10 :: T))
    else (plainN (((c :: r) ++ 10 :: T).take 1), 1) := rfl
  have own : tokN (c :: r) = bif blankB c then (1, passN (pureF blankB) () (c :: r))
    else bif eqB c 34 then quoteN r
    else bif eqB c 40 && headB r 42 then noteN (c :: r)
    else bif restB c then (plainN ((c :: r).take (passN (pureF restB) () (c :: r))), passN (pureF restB) () (c :: r))
    else bif signB c then (plainN ((c :: r).take (passN (pureF signB) () (c :: r))), passN (pureF signB) () (c :: r))
    else (plainN ((c :: r).take 1), 1) := rfl
  rw [key]
  rw [own] at hk hb ⊢
  clear key own hR
  rw [passN_stop restB (c :: r) T (by decide), passN_stop signB (c :: r) T (by decide), take_app_le _ _ _ (passN_le _ _ _), take_app_le _ _ _ (passN_le _ _ _), take_app_le _ _ 1 (by simp)]
  cases h1 : blankB c
  ·cases h2 : eqB c 34
   ·cases h3 : (eqB c 40 && headB r 42)
    ·have h3' : (eqB c 40 && headB (r ++ 10 :: T) 42) = false := by
      cases h4 : eqB c 40
      ·rfl
      ·rw [h4, Bool.true_and] at h3; rw [headB_app _ _ _ h3 (by decide)]; rfl
     rw [h3']
     simp only [cond_false]
    ·have h3' : (eqB c 40 && headB (r ++ 10 :: T) 42) = true := by
      rw [Bool.and_eq_true] at h3 ⊢
      exact ⟨h3.1, headB_keep _ _ _ h3.2⟩
     rw [h3']
     simp only [h1, h2, h3, cond_false, cond_true] at hk hb ⊢
     unfold noteN at hk ⊢
     simp only at hk ⊢
     cases e : (passN nF (0, 0) (c :: r) == (c :: r).length)
     ·have hne : ¬ passN nF (0, 0) (c :: r) = (c :: r).length := by simpa using e
      have hle := passN_le nF (0, 0) (c :: r)
      have hm := passN_more nF (0, 0) (c :: r) (10 :: T) (by omega)
      rw [hm]
      have : (passN nF (0, 0) (c :: r) == (c :: r ++ 10 :: T).length) = false := by
       rw [beq_eq_false_iff_ne, List.length_append]; omega
      rw [this]
     ·rw [e] at hk; exact absurd rfl hk
   ·simp only [h1, h2, cond_false, cond_true] at hk hb ⊢
    unfold quoteN at hk ⊢
    simp only at hk ⊢
    cases e : headB (r.drop (passN qF false r)) 34
    ·rw [e] at hk; exact absurd rfl hk
    ·have hl := headB_len _ _ e
     rw [List.length_drop] at hl
     rw [passN_more qF false r (10 :: T) (by omega), List.drop_append_of_le_length (by omega), headB_keep _ _ _ e]
     rfl
  ·simp only [h1, cond_true] at hk hb ⊢
   have hle := passN_le (pureF blankB) () (c :: r)
   rw [passN_more (pureF blankB) () (c :: r) (10 :: T) (by
    apply Nat.lt_of_le_of_ne hle
    intro h
    exact hb ⟨trivial, h⟩)]
/-- A blank up to the end takes the line end in, and all blanks behind it. -/
theorem tok_blank (R T : List UInt8) (hR : R ≠ []) (h1 : (tokN R).1 = 1) (h2 : (tokN R).2 = R.length) : tokN (R ++ 10 :: T) = (1, R.length + 1 + passN (pureF blankB) () T) := by
 cases R with
 | nil => exact absurd rfl hR
 | cons c r =>
  have hbk : blankB c = true ∧ passN (pureF blankB) () (c :: r) = (c :: r).length := by
   cases hb : blankB c
   ·exfalso
    unfold tokN at h1
    simp only [hb, cond_false] at h1
    cases h2 : eqB c 34
    ·cases h3 : (eqB c 40 && headB r 42)
     ·simp only [h2, h3, cond_false] at h1
      have hp : ∀ p, plainN p ≠ 1 := by
       intro p
       unfold plainN
       cases p with
       | nil => decide
       | cons a t =>
        simp only
        cases digB a
        ·cases hz : (kindN (bsOf (a :: t)) == 0)
         ·simp only [cond_false]
          unfold kindN
          rcases beg_cases (bsOf (a :: t)) with h | h | h | h | h <;> rw [h] <;> cases mkB (bsOf (a :: t)) <;> cases allS (bsOf (a :: t)) <;> cases allR (bsOf (a :: t)) <;> cases kwB (bsOf (a :: t)) <;> decide
         ·simp
        ·cases passN (pureF digB) () (a :: t) == (a :: t).length <;> simp
      cases h4 : restB c
      ·cases h5 : signB c
       ·simp only [h4, h5, cond_false] at h1; exact hp _ h1
       ·simp only [h4, h5, cond_false, cond_true] at h1; exact hp _ h1
      ·simp only [h4, cond_true] at h1; exact hp _ h1
     ·simp only [h2, h3, cond_false, cond_true] at h1
      unfold noteN at h1
      simp only at h1
      cases e : (passN nF (0, 0) (c :: r) == (c :: r).length) <;> rw [e] at h1 <;> simp at h1
    ·simp only [h2, cond_true] at h1
     unfold quoteN at h1
     simp only at h1
     cases e : headB (r.drop (passN qF false r)) 34 <;> rw [e] at h1 <;> simp at h1
   ·refine ⟨rfl, ?_⟩
    unfold tokN at h2
    simp only [hb, cond_true] at h2
    exact h2
  have key : tokN ((c :: r) ++ 10 :: T) = bif blankB c then (1, passN (pureF blankB) () ((c :: r) ++ 10 :: T)) else _ := rfl
  rw [key, hbk.1]
  simp only [cond_true]
  rw [passN_pure_app blankB _ _ hbk.2]
  have : passN (pureF blankB) () (10 :: T) = passN (pureF blankB) () T + 1 := rfl
  rw [this]
  congr 1
  omega
theorem tok_line (T : List UInt8) : tokN (10 :: T) = (1, passN (pureF blankB) () T + 1) := rfl

/-- The tokens that say something, from a place on, but the end. -/
def saysF (a : Nat) (l : List UInt8) : List Tok := pickT saysB (scanF l.length a l)
theorem saysF_nil (a : Nat) : saysF a [] = [] := rfl
theorem saysF_at (a : Nat) (l : List UInt8) (h : l ≠ []) : saysF a l = pickT saysB [⟨(tokN l).1, a, a + (tokN l).2⟩] ++ saysF (a + (tokN l).2) (l.drop (tokN l).2) := by
 have hb := tokN_bound l h
 unfold saysF
 obtain ⟨m, hm⟩ : ∃ m, l.length = m + 1 := ⟨l.length - 1, by omega⟩
 rw [hm]
 have he : l.isEmpty = false := by cases l <;> simp_all
 simp only [scanF, he, cond_false]
 rw [show (⟨(tokN l).1, a, a + (tokN l).2⟩ : Tok) :: scanF m (a + (tokN l).2) (l.drop (tokN l).2) = [⟨(tokN l).1, a, a + (tokN l).2⟩] ++ scanF m (a + (tokN l).2) (l.drop (tokN l).2) from rfl, pickT_append]
 rw [scanF_fuel m (l.drop (tokN l).2).length _ _ (by rw [List.length_drop]; omega) (Nat.le_refl _)]
theorem saysF_blanks (b : Nat) (T : List UInt8) : saysF (b + passN (pureF blankB) () T) (T.drop (passN (pureF blankB) () T)) = saysF b T := by
 cases T with
 | nil => rfl
 | cons c r =>
  cases hb : blankB c
  ·have : passN (pureF blankB) () (c :: r) = 0 := by simp [passN, pureF, hb]
   rw [this]; rfl
  ·have ht : tokN (c :: r) = (1, passN (pureF blankB) () (c :: r)) := by unfold tokN; simp only [hb, cond_true]
   rw [saysF_at b (c :: r) (by simp), ht]
   rfl
/-- No token of these is bad. -/
def goodF (a : Nat) (l : List UInt8) : Prop := ∀ t ∈ scanF l.length a l, noBad t = true
theorem goodF_at (a : Nat) (l : List UInt8) (h : l ≠ []) (hg : goodF a l) : (tokN l).1 ≠ 3 ∧ goodF (a + (tokN l).2) (l.drop (tokN l).2) := by
 have hb := tokN_bound l h
 unfold goodF at hg ⊢
 obtain ⟨m, hm⟩ : ∃ m, l.length = m + 1 := ⟨l.length - 1, by omega⟩
 rw [hm] at hg
 have he : l.isEmpty = false := by cases l <;> simp_all
 simp only [scanF, he, cond_false] at hg
 rw [scanF_fuel m (l.drop (tokN l).2).length _ _ (by rw [List.length_drop]; omega) (Nat.le_refl _)] at hg
 refine ⟨?_, fun t ht => hg t (List.mem_cons_of_mem _ ht)⟩
 have := hg _ (List.mem_cons_self ..)
 unfold noBad at this
 simpa using this
theorem says_parted (R T : List UInt8) (a : Nat) (hg : goodF a R) : saysF a (R ++ 10 :: T) = saysF a R ++ saysF (a + R.length + 1) T := by
 obtain ⟨m, hm⟩ : ∃ m, m = R.length := ⟨_, rfl⟩
 induction m using Nat.strongRecOn generalizing R a with
 | _ m ih =>
  by_cases hR : R = []
  ·subst hR
   rw [List.nil_append, saysF_at a (10 :: T) (by simp), tok_line, saysF_nil, List.nil_append]
   have : pickT saysB [⟨1, a, a + (passN (pureF blankB) () T + 1)⟩] = [] := rfl
   simp only [this, List.nil_append, List.drop_succ_cons]
   have h2 := saysF_blanks (a + 1) T
   rw [show a + 1 + passN (pureF blankB) () T = a + (passN (pureF blankB) () T + 1) from by omega] at h2
   simpa using h2
  ·obtain ⟨hk, hg2⟩ := goodF_at a R hR hg
   have hb := tokN_bound R hR
   have hne : R ++ 10 :: T ≠ [] := by simp
   by_cases hbl : (tokN R).1 = 1 ∧ (tokN R).2 = R.length
   ·have ht := tok_blank R T hR hbl.1 hbl.2
    rw [saysF_at a _ hne, ht, saysF_at a R hR, hbl.1, hbl.2]
    have e1 : pickT saysB [⟨1, a, a + R.length⟩] = [] := rfl
    have e2 : pickT saysB [⟨1, a, a + (R.length + 1 + passN (pureF blankB) () T)⟩] = [] := rfl
    simp only [e1, e2, List.nil_append, List.drop_length, saysF_nil]
    have hd : (R ++ 10 :: T).drop (R.length + 1 + passN (pureF blankB) () T) = T.drop (passN (pureF blankB) () T) := by
     rw [show R.length + 1 + passN (pureF blankB) () T = R.length + (1 + passN (pureF blankB) () T) from by omega, List.drop_append, List.drop_of_length_le (by omega), List.nil_append, show R.length + (1 + passN (pureF blankB) () T) - R.length = passN (pureF blankB) () T + 1 from by omega, List.drop_succ_cons]
    rw [hd]
    have h2 := saysF_blanks (a + R.length + 1) T
    rw [show a + R.length + 1 + passN (pureF blankB) () T = a + (R.length + 1 + passN (pureF blankB) () T) from by omega] at h2
    exact h2
   ·have ht := tok_parted R T hR hk hbl
    rw [saysF_at a _ hne, ht, saysF_at a R hR, List.drop_append_of_le_length hb.2]
    have := ih (R.drop (tokN R).2).length (by rw [List.length_drop]; omega) (R.drop (tokN R).2) (a + (tokN R).2) hg2 rfl
    rw [this, List.append_assoc]
    congr 3
    rw [List.length_drop]; omega
def shiftT (d : Nat) (t : Tok) : Tok := ⟨t.k, t.a + d, t.e + d⟩
theorem scanF_shift (n a d : Nat) (l : List UInt8) : scanF n (a + d) l = (scanF n a l).map (shiftT d) := by
 induction n generalizing a l with
 | zero => rfl
 | succ n ih =>
  cases l with
  | nil => rfl
  | cons c r =>
   simp only [scanF, List.isEmpty_cons, cond_false, List.map_cons]
   rw [show a + d + (tokN (c :: r)).2 = a + (tokN (c :: r)).2 + d from by omega, ih]
   rfl
theorem pickT_shift (ask : Int → Bool) (d : Nat) (l : List Tok) : pickT ask (l.map (shiftT d)) = (pickT ask l).map (shiftT d) := by
 induction l with
 | nil => rfl
 | cons x r ih =>
  simp only [List.map_cons, pickT, shiftT]
  cases ask x.k
  ·exact ih
  ·simp only [cond_true, List.map_cons, ih]; rfl
theorem wordsT_says (s : ByteArray) : wordsT s = saysF 0 s.data.toList ++ [⟨0, s.size, s.size⟩] := by
 unfold wordsT scanT restT saysF
 rw [pickT_append, List.drop_zero, data_len]
 rfl
theorem first_good (s : ByteArray) (l : List Tok) (h : (firstT s l).2 = 0) : ∀ t ∈ l, noBad t = true := by
 induction l with
 | nil => intro t ht; simp at ht
 | cons x r ih =>
  simp only [firstT] at h
  cases hb : noBad x
  ·rw [hb] at h
   exact absurd h (badN_ne s x.a)
  ·rw [hb] at h
   intro t ht
   rcases List.mem_cons.1 ht with rfl | ht
   ·exact hb
   ·exact ih h t ht
/-- The words of two texts with a line end between them. -/
theorem words_parted (s t u : ByteArray) (hu : u.data.toList = s.data.toList ++ 10 :: t.data.toList) (h : (firstN s).2 = 0) :
  ∃ A, wordsT s = A ++ [⟨0, s.size, s.size⟩] ∧ wordsT u = A ++ (wordsT t).map (shiftT (s.size + 1)) := by
 refine ⟨saysF 0 s.data.toList, wordsT_says s, ?_⟩
 have hg : goodF 0 s.data.toList := by
  intro x hx
  apply first_good s _ h
  unfold scanT restT
  rw [List.drop_zero]
  rw [data_len] at hx
  exact List.mem_append_left _ hx
 have hz : u.size = s.size + 1 + t.size := by rw [← data_len, hu, List.length_append, List.length_cons, data_len, data_len]; omega
 rw [wordsT_says u, wordsT_says t, hu, says_parted _ _ 0 hg, List.map_append, List.append_assoc]
 congr 1
 have : saysF (0 + s.data.toList.length + 1) t.data.toList = (saysF 0 t.data.toList).map (shiftT (s.size + 1)) := by
  unfold saysF
  rw [← pickT_shift, ← scanF_shift, data_len]
  simp
 rw [this]
 congr 1
 simp only [List.map_cons, List.map_nil, shiftT, hz]
 congr 2 <;> omega
end Go.Proofs.YtkjgkchdkeggoaaGreatDoor

namespace Go.Proofs.YtkjgkchdkeggoaaGreatDoor
open Go.RowKit
set_option maxRecDepth 20000
set_option linter.unusedVariables false
set_option linter.unusedSimpArgs false

theorem ext_list (s : ByteArray) (a e : Nat) : (s.extract a e).data.toList = (s.data.toList.take e).drop a := by
 rw [ByteArray.data_extract, Array.toList_extract, List.extract_eq_take_drop, List.drop_take]
theorem bytes_ext {s t : ByteArray} (h : s.data.toList = t.data.toList) : s = t := by
 cases s; cases t; simp only at h; congr 1; exact Array.ext' h
theorem ext_left {s u : ByteArray} {r : List UInt8} (h : u.data.toList = s.data.toList ++ r) {a e : Nat} (he : e ≤ s.size) : u.extract a e = s.extract a e := by
 apply bytes_ext
 rw [ext_list, ext_list, h, List.take_append_of_le_length (by rw [data_len]; exact he)]
theorem ext_right {t u : ByteArray} {l : List UInt8} (h : u.data.toList = l ++ t.data.toList) (a e : Nat) : u.extract (a + l.length) (e + l.length) = t.extract a e := by
 apply bytes_ext
 rw [ext_list, ext_list, h, Nat.add_comm e, List.take_length_add_append, Nat.add_comm a, List.drop_length_add_append]
theorem firstT_pick (s : ByteArray) (l : List Tok) : firstT s (pickT saysB l) = firstT s l := by
 induction l with
 | nil => rfl
 | cons x r ih =>
  simp only [pickT, firstT]
  cases hs : saysB x.k
  ·have : noBad x = true := by
    unfold noBad
    cases hk : (x.k == 3)
    ·rfl
    ·rw [beq_iff_eq.1 hk] at hs; exact absurd hs (by decide)
   rw [this]; exact ih
  ·simp only [cond_true, firstT, ih]
theorem firstN_words (s : ByteArray) : firstN s = firstT s (wordsT s) := by unfold firstN wordsT; rw [firstT_pick]
theorem firstT_good (s : ByteArray) (A l : List Tok) (h : ∀ t ∈ A, noBad t = true) : firstT s (A ++ l) = firstT s l := by
 induction A with
 | nil => rfl
 | cons x r ih =>
  simp only [List.cons_append, firstT]
  rw [h x (by simp), ih (fun t ht => h t (by simp [ht]))]; rfl
end Go.Proofs.YtkjgkchdkeggoaaGreatDoor

namespace Go.Proofs.YtkjgkchdkeggoaaGreatDoor.Inn
open Go.RowKit
set_option maxRecDepth 20000
set_option linter.unusedVariables false
set_option linter.unusedSimpArgs false

def Fin (S : Src) (k n : Nat) {α : Type} : Out α → Prop
 | .ok _ m => n + k ≤ m ∧ m < S.ts.length
 | .form m => m < S.ts.length
 | .deep m => m < S.ts.length
 | .dry => False
theorem Fin.at {S : Src} {a b n m : Nat} {α : Type} {o : Out α} (h : Fin S a m o) (hb : n + b ≤ m + a) : Fin S b n o := by
 cases o with
 | ok x k => exact ⟨by have := h.1; omega, h.2⟩
 | form k => exact h
 | deep k => exact h
 | dry => exact h
theorem Fin.le {S : Src} {a b n : Nat} {α : Type} {o : Out α} (h : Fin S a n o) (hb : b ≤ a) : Fin S b n o := h.at (by omega)
theorem fin_bind {S : Src} {a b c n : Nat} {α β : Type} {o : Out α} {f : α → Nat → Out β} (h : Fin S a n o) (hc : c ≤ a + b) (hf : ∀ x m, n + a ≤ m → m < S.ts.length → Fin S b m (f x m)) : Fin S c n (o.bind f) := by
 cases o with
 | ok x m => exact (hf x m h.1 h.2).at (by have : n + a ≤ m := h.1; omega)
 | form m => exact h
 | deep m => exact h
 | dry => exact h
theorem fin_ok {S : Src} {k n m : Nat} {α : Type} {x : α} (h : n + k ≤ m) (hm : m < S.ts.length) : Fin S k n (.ok x m) := ⟨h, hm⟩
theorem fin_if {S : Src} {k n : Nat} {α : Type} {c : Bool} {a b : Out α} (ha : c = true → Fin S k n a) (hb : c = false → Fin S k n b) : Fin S k n (bif c then a else b) := by
 cases c
 ·exact hb rfl
 ·exact ha rfl
section
variable {S : Src} (g : S.Good)
include g
theorem need_fin {t : List UInt8} (ht : t ≠ []) {n : Nat} (hn : n < S.ts.length) : Fin S 1 n (S.need t n) := by
 unfold Src.need
 exact fin_if (fun h => fin_ok (Nat.le_refl _) (g.more hn ht h)) (fun _ => by show _ < S.ts.length; omega)
theorem take_fin {ks : List Int} (hz : ks.contains 0 = false) {n : Nat} (hn : n < S.ts.length) : Fin S 1 n (S.take ks n) := by
 unfold Src.take
 refine fin_if (fun h => fin_ok (Nat.le_refl _) (g.moreK hn (fun e => ?_))) (fun _ => by show _ < S.ts.length; omega)
 rw [e, hz] at h; cases h
theorem pathL_fin {ks : List Int} (hz : ks.contains 0 = false) : ∀ (f : Nat) (acc : List Nat) (n : Nat), n < S.ts.length → S.ts.length < f + n + 1 → Fin S 0 n (S.pathL ks f acc n) := by
 intro f
 induction f with
 | zero => intro acc n hn hf; omega
 | succ f ih =>
  intro acc n hn hf
  unfold Src.pathL
  refine fin_if (fun h => ?_) (fun _ => fin_ok (Nat.le_refl _) hn)
  simp only [Bool.and_eq_true] at h
  have h1 := g.more hn (by simp) h.2
  refine (fin_bind (take_fin g hz h1) (c := 1) (b := 0) (by omega) (fun x m hm hl => ih _ m hl (by omega))).at (by omega)
theorem path_fin {ks : List Int} (hz : ks.contains 0 = false) {n : Nat} (hn : n < S.ts.length) : Fin S 1 n (S.path ks n) := by
 unfold Src.path
 exact fin_bind (take_fin g hz hn) (by omega) (fun x m hm hl => pathL_fin g hz _ _ m hl (by omega))
theorem typePath_fin {n : Nat} (hn : n < S.ts.length) : Fin S 1 n (S.typePath n) := by
 unfold Src.typePath
 exact fin_bind (path_fin g (by decide) hn) (b := 0) (by omega) (fun x m hm hl => fin_if (fun _ => fin_ok (by omega) hl) (fun _ => by show _ < S.ts.length; omega))
theorem value_fin {n : Nat} (hn : n < S.ts.length) : Fin S 1 n (S.value n) := by
 unfold Src.value
 refine fin_if (fun h => ?_) (fun _ => take_fin g (by decide) hn)
 exact (take_fin g (by decide) (g.more hn (by simp) h)).at (by omega)

theorem rowL_fin {mark : List UInt8} (hm : mark ≠ []) {read : Nat → Out Pb} (hr : ∀ k, k < S.ts.length → Fin S 1 k (read k)) : ∀ (f : Nat) (acc : List Pb) (n : Nat), n < S.ts.length → S.ts.length < f + n + 1 → Fin S 0 n (rowL S mark read f acc n) := by
 intro f
 induction f with
 | zero => intro acc n hn hf; omega
 | succ f ih =>
  intro acc n hn hf
  unfold rowL
  refine fin_if (fun h => ?_) (fun _ => fin_ok (Nat.le_refl _) hn)
  have h1 := g.more hn hm h
  exact (fin_bind (hr _ h1) (c := 1) (b := 0) (by omega) (fun x m hm hl => ih _ m hl (by omega))).at (by omega)
theorem rowO_fin {F : Nat} (hF : S.ts.length ≤ F) {mark : List UInt8} (hm : mark ≠ []) {read : Nat → Out Pb} (hr : ∀ k, k < S.ts.length → Fin S 1 k (read k)) {n : Nat} (hn : n < S.ts.length) : Fin S 1 n (rowO S F mark read n) := by
 unfold rowO
 exact fin_bind (hr n hn) (by omega) (fun x m hm2 hl => rowL_fin g hm hr _ _ m hl (by omega))


section
variable {F : Nat} (hF : S.ts.length ≤ F) {rec : Nt → Nat → Nat → Out Pb} {d : Nat} (hrec : ∀ nt k, k < S.ts.length → S.may nt k → Fin S 1 k (rec nt d k))
include hF hrec
theorem atomicTyO_fin {n : Nat} (hn : n < S.ts.length) : Fin S 1 n (atomicTyO S F rec d n) := by
 unfold atomicTyO
 refine fin_if (fun h => fin_ok (by omega) (g.moreK hn (by have := beq_iff_eq.1 h; omega))) (fun _ => fin_if (fun h => ?_) (fun _ => ?_))
 ·have h1 := g.more hn (by simp) h
  refine (fin_bind (rowO_fin g hF (by simp) (fun k hk => hrec .ty k hk trivial) h1) (c := 0) (b := 0) (by omega) (fun l m hm hl => ?_)).at (by omega)
  refine (fin_bind (need_fin g (by simp) hl) (b := 0) (by omega) (fun u m2 hm2 hl2 => ?_))
  unfold pick1
  split
  ·exact fin_ok (by omega) hl2
  ·exact fin_bind (typePath_fin g hl2) (b := 0) (by omega) (fun p m3 hm3 hl3 => fin_ok (by omega) hl3)
 ·exact fin_bind (typePath_fin g hn) (b := 0) (by omega) (fun p m3 hm3 hl3 => fin_ok (by omega) hl3)
theorem appliedL_fin (n : Nat) : ∀ (f : Nat) (b : Pb) (m : Nat), m < S.ts.length → S.ts.length < f + m + 1 → Fin S 0 m (appliedL S n f b m) := by
 have _ := hF
 have _ := hrec
 intro f
 induction f with
 | zero => intro b m hn hf; omega
 | succ f ih =>
  intro b m hn hf
  unfold appliedL
  refine fin_if (fun h => ?_) (fun _ => fin_ok (Nat.le_refl _) hn)
  exact fin_bind (typePath_fin g hn) (b := 0) (by omega) (fun p m1 hm hl => ih _ m1 hl (by omega))
theorem appliedO_fin {n : Nat} (hn : n < S.ts.length) : Fin S 1 n (appliedO S F rec d n) := by
 unfold appliedO
 exact fin_bind (atomicTyO_fin g hF hrec hn) (b := 0) (by omega) (fun b m hm hl => appliedL_fin g hF hrec n _ _ m hl (by omega))
theorem productO_fin {n : Nat} (hn : n < S.ts.length) : Fin S 1 n (productO S F rec d n) := by
 unfold productO
 exact fin_bind (rowO_fin g hF (by simp) (fun k hk => appliedO_fin g hF hrec hk) hn) (b := 0) (by omega) (fun l m hm hl => fin_ok (by omega) hl)
theorem tyO_fin {n : Nat} (hn : n < S.ts.length) : Fin S 1 n (tyO S F rec d n) := by
 unfold tyO
 refine fin_bind (productO_fin g hF hrec hn) (b := 0) (by omega) (fun b m hm hl => fin_if (fun h => ?_) (fun _ => fin_ok (by omega) hl))
 exact (fin_bind (hrec .ty _ (g.more hl (by simp) h) trivial) (b := 0) (c := 0) (by omega) (fun c m2 hm2 hl2 => fin_ok (by omega) hl2)).at (by omega)
omit hrec in
theorem tupleO_fin (fr : Nat) {member : Nat → Out Pb} (hm : ∀ k, k < S.ts.length → Fin S 1 k (member k)) {n : Nat} (hn : n < S.ts.length) : Fin S 1 n (tupleO S F fr member n) := by
 unfold tupleO
 refine fin_if (fun h => fin_ok (by omega) (g.more hn (by simp) h)) (fun _ => ?_)
 refine fin_bind (rowO_fin g hF (by simp) hm hn) (b := 0) (by omega) (fun l m hm hl => ?_)
 exact fin_bind (need_fin g (by simp) hl) (b := 0) (by omega) (fun u m2 hm2 hl2 => fin_ok (by omega) hl2)
omit hrec in
theorem plainO_fin (named : Int) {member : Nat → Out Pb} (hm : ∀ k, k < S.ts.length → Fin S 1 k (member k)) {n : Nat} (hn : n < S.ts.length) : Fin S 1 n (plainO S F named member n) := by
 unfold plainO
 refine fin_if (fun h => fin_ok (by omega) (g.moreK hn (by have := beq_iff_eq.1 h; omega))) (fun _ => fin_if (fun h => fin_ok (by omega) (g.moreK hn (by have := beq_iff_eq.1 h; omega))) (fun _ => fin_if (fun h => ?_) (fun _ => ?_)))
 ·exact (tupleO_fin g hF n hm (g.more hn (by simp) h)).at (by omega)
 ·exact fin_bind (value_fin g hn) (b := 0) (by omega) (fun p m3 hm3 hl3 => fin_ok (by omega) hl3)
theorem atomicPatO_fin {n : Nat} (hn : n < S.ts.length) : Fin S 1 n (atomicPatO S F rec d n) := by
 unfold atomicPatO
 refine fin_if (fun h => fin_ok (by omega) (g.more hn (by simp) h)) (fun _ => fin_if (fun h => ?_) (fun _ => plainO_fin g hF 39 (fun k hk => hrec .pat k hk trivial) hn))
 exact fin_bind (path_fin g (by decide) hn) (b := 0) (by omega) (fun p m3 hm3 hl3 => fin_ok (by omega) hl3)
theorem patO_fin {n : Nat} (hn : n < S.ts.length) : Fin S 1 n (patO S F rec d n) := by
 unfold patO
 refine fin_if (fun h => ?_) (fun _ => fin_if (fun h => ?_) (fun _ => atomicPatO_fin g hF hrec hn))
 ·simp only [Bool.and_eq_true, beq_iff_eq] at h
  have h1 := g.moreK hn (by omega)
  have h2 := g.more h1 (by simp) h.2
  exact (fin_bind (hrec .pat _ h2 trivial) (b := 0) (c := 0) (by omega) (fun c m2 hm2 hl2 => fin_ok (by omega) hl2)).at (by omega)
 ·refine fin_bind (path_fin g (by decide) hn) (b := 0) (by omega) (fun p m hm hl => fin_if (fun _ => ?_) (fun _ => fin_ok (by omega) hl))
  exact fin_bind (atomicPatO_fin g hF hrec hl) (b := 0) (by omega) (fun p m3 hm3 hl3 => fin_ok (by omega) hl3)
theorem decsL_fin (a : Nat) : ∀ (f : Nat) (acc : List Pb) (n : Nat), n < S.ts.length → S.ts.length < f + n + 1 → Fin S 0 n (decsL S rec d a f acc n) := by
 have _ := hF
 intro f
 induction f with
 | zero => intro acc n hn hf; omega
 | succ f ih =>
  intro acc n hn hf
  unfold decsL
  refine fin_if (fun h => ?_) (fun _ => fin_if (fun h => ?_) (fun _ => fin_ok (Nat.le_refl _) hn))
  ·exact (ih acc (n + 1) (g.more hn (by simp) h) (by omega)).at (by omega)
  ·exact fin_bind (hrec (.dec a) n hn h) (b := 0) (by omega) (fun x m hm hl => ih _ m hl (by omega))
theorem decsO_fin (a : Nat) {n : Nat} (hn : n < S.ts.length) : Fin S 0 n (decsO S F rec d a n) := decsL_fin g hF hrec a _ _ n hn (by omega)
theorem withinO_fin (a : Nat) {n : Nat} (hn : n < S.ts.length) : Fin S 0 n (withinO S F rec d a n) := by
 unfold withinO
 exact fin_bind (decsO_fin g hF hrec a hn) (b := 0) (by omega) (fun l m hm hl => fin_ok (by omega) hl)
theorem atomO_fin {n : Nat} (hn : n < S.ts.length) : Fin S 1 n (atomO S F rec d n) := by
 unfold atomO
 refine fin_if (fun h => ?_) (fun _ => fin_if (fun h => ?_) (fun _ => plainO_fin g hF 28 (fun k hk => hrec .exp k hk trivial) hn))
 ·exact fin_bind (path_fin g (by decide) hn) (b := 0) (by omega) (fun p m hm hl => fin_if (fun _ => fin_ok (by omega) hl) (fun _ => fin_ok (by omega) hl))
 ·have h1 := g.more hn (by simp) h
  refine (fin_bind (withinO_fin g hF hrec 0 h1) (b := 0) (c := 0) (by omega) (fun ds m hm hl => ?_)).at (by omega)
  refine fin_bind (need_fin g (by simp) hl) (b := 0) (by omega) (fun u m2 hm2 hl2 => ?_)
  refine fin_bind (hrec .exp _ hl2 trivial) (b := 0) (by omega) (fun e m3 hm3 hl3 => ?_)
  exact fin_bind (need_fin g (by simp) hl3) (b := 0) (by omega) (fun u m4 hm4 hl4 => fin_ok (by omega) hl4)
theorem callL_fin : ∀ (f : Nat) (acc : List Pb) (n : Nat), n < S.ts.length → S.ts.length < f + n + 1 → Fin S 0 n (callL S F rec d f acc n) := by
 intro f
 induction f with
 | zero => intro acc n hn hf; omega
 | succ f ih =>
  intro acc n hn hf
  unfold callL
  refine fin_if (fun h => ?_) (fun _ => fin_ok (Nat.le_refl _) hn)
  exact fin_bind (atomO_fin g hF hrec hn) (b := 0) (by omega) (fun x m hm hl => ih _ m hl (by omega))
theorem callO_fin {n : Nat} (hn : n < S.ts.length) : Fin S 1 n (callO S F rec d n) := by
 unfold callO
 refine fin_bind (atomO_fin g hF hrec hn) (b := 0) (by omega) (fun b m hm hl => ?_)
 exact fin_bind (callL_fin g hF hrec _ _ m hl (by omega)) (b := 0) (by omega) (fun l m2 hm2 hl2 => fin_ok (by omega) hl2)
theorem infixL_fin : ∀ (f : Nat) (sg : List Nat) (acc : List Pb) (n : Nat), n < S.ts.length → S.ts.length < f + n + 1 → Fin S 0 n (infixL S F rec d f sg acc n) := by
 intro f
 induction f with
 | zero => intro sg acc n hn hf; omega
 | succ f ih =>
  intro sg acc n hn hf
  unfold infixL
  refine fin_if (fun h => ?_) (fun _ => fin_ok (Nat.le_refl _) hn)
  refine fin_bind (take_fin g (by decide) hn) (b := 0) (by omega) (fun x m hm hl => ?_)
  exact fin_bind (callO_fin g hF hrec hl) (b := 0) (by omega) (fun x m2 hm2 hl2 => ih _ _ m2 hl2 (by omega))
theorem infixO_fin {n : Nat} (hn : n < S.ts.length) : Fin S 1 n (infixO S F rec d n) := by
 unfold infixO
 refine fin_bind (callO_fin g hF hrec hn) (b := 0) (by omega) (fun b m hm hl => ?_)
 exact fin_bind (infixL_fin g hF hrec _ _ _ m hl (by omega)) (b := 0) (by omega) (fun l m2 hm2 hl2 => fin_ok (by omega) hl2)
theorem clauseO_fin (k : Int) (fr : Nat) {n : Nat} (hn : n < S.ts.length) : Fin S 1 n (clauseO S rec d k fr n) := by
 have _ := hF
 unfold clauseO
 refine fin_bind (hrec .pat _ hn trivial) (b := 0) (by omega) (fun p m hm hl => ?_)
 refine fin_bind (need_fin g (by simp) hl) (b := 0) (by omega) (fun u m2 hm2 hl2 => ?_)
 exact fin_bind (hrec .exp _ hl2 trivial) (b := 0) (by omega) (fun e m3 hm3 hl3 => fin_ok (by omega) hl3)
theorem armO_fin {n : Nat} (hn : n < S.ts.length) : Fin S 1 n (armO S rec d n) := clauseO_fin g hF hrec 33 n hn
theorem expO_fin {n : Nat} (hn : n < S.ts.length) : Fin S 1 n (expO S F rec d n) := by
 unfold expO
 refine fin_if (fun h => ?_) (fun _ => fin_if (fun h => ?_) (fun _ => fin_if (fun h => ?_) (fun _ => infixO_fin g hF hrec hn)))
 ·have h1 := g.more hn (by simp) h
  refine (fin_bind (hrec .exp _ h1 trivial) (b := 0) (c := 0) (by omega) (fun a m hm hl => ?_)).at (by omega)
  refine fin_bind (need_fin g (by simp) hl) (b := 0) (by omega) (fun u m2 hm2 hl2 => ?_)
  refine fin_bind (hrec .exp _ hl2 trivial) (b := 0) (by omega) (fun a m3 hm3 hl3 => ?_)
  refine fin_bind (need_fin g (by simp) hl3) (b := 0) (by omega) (fun u m4 hm4 hl4 => ?_)
  exact fin_bind (hrec .exp _ hl4 trivial) (b := 0) (by omega) (fun a m5 hm5 hl5 => fin_ok (by omega) hl5)
 ·have h1 := g.more hn (by simp) h
  refine (fin_bind (hrec .exp _ h1 trivial) (b := 0) (c := 0) (by omega) (fun a m hm hl => ?_)).at (by omega)
  refine fin_bind (need_fin g (by simp) hl) (b := 0) (by omega) (fun u m2 hm2 hl2 => ?_)
  exact fin_bind (rowO_fin g hF (by simp) (fun k hk => armO_fin g hF hrec hk) hl2) (b := 0) (by omega) (fun a m3 hm3 hl3 => fin_ok (by omega) hl3)
 ·exact (clauseO_fin g hF hrec 34 n (g.more hn (by simp) h)).at (by omega)
omit hF hrec in
theorem varsL_fin : ∀ (f : Nat) (n : Nat), n < S.ts.length → S.ts.length < f + n + 1 → Fin S 0 n (varsL S f n) := by
 intro f
 induction f with
 | zero => intro n hn hf; omega
 | succ f ih =>
  intro n hn hf
  unfold varsL
  refine fin_if (fun h => ?_) (fun _ => fin_ok (Nat.le_refl _) hn)
  exact (fin_bind (take_fin g (by decide) (g.more hn (by simp) h)) (b := 0) (c := 0) (by omega) (fun x m hm hl => ih m hl (by omega))).at (by omega)
omit hrec in
theorem typeNameO_fin {n : Nat} (hn : n < S.ts.length) : Fin S 1 n (typeNameO S F n) := by
 unfold typeNameO
 refine fin_if (fun h => ?_) (fun _ => fin_if (fun h => ?_) (fun _ => take_fin g (by decide) hn))
 ·exact (take_fin g (by decide) (g.moreK hn (by have := beq_iff_eq.1 h; omega))).at (by omega)
 ·refine (fin_bind (take_fin g (by decide) (g.more hn (by simp) h)) (b := 0) (c := 0) (by omega) (fun x m hm hl => ?_)).at (by omega)
  refine fin_bind (varsL_fin g _ m hl (by omega)) (b := 0) (by omega) (fun u m2 hm2 hl2 => ?_)
  refine fin_bind (need_fin g (by simp) hl2) (b := 0) (by omega) (fun u m3 hm3 hl3 => ?_)
  exact (take_fin g (by decide) hl3).le (by omega)
theorem conO_fin {n : Nat} (hn : n < S.ts.length) : Fin S 1 n (conO S rec d n) := by
 have _ := hF
 unfold conO
 refine fin_bind (take_fin g (by decide) hn) (b := 0) (by omega) (fun x m hm hl => fin_if (fun h => ?_) (fun _ => fin_ok (by omega) hl))
 exact (fin_bind (hrec .ty _ (g.more hl (by simp) h) trivial) (b := 0) (c := 0) (by omega) (fun c m2 hm2 hl2 => fin_ok (by omega) hl2)).at (by omega)
theorem dbindO_fin {n : Nat} (hn : n < S.ts.length) : Fin S 1 n (dbindO S F rec d n) := by
 unfold dbindO
 refine fin_bind (typeNameO_fin g hF hn) (b := 0) (by omega) (fun x m hm hl => ?_)
 refine fin_bind (need_fin g (by simp) hl) (b := 0) (by omega) (fun u m2 hm2 hl2 => ?_)
 exact fin_bind (rowO_fin g hF (by simp) (fun k hk => conO_fin g hF hrec hk) hl2) (b := 0) (by omega) (fun a m3 hm3 hl3 => fin_ok (by omega) hl3)
theorem datatypesO_fin (fr : Nat) {n : Nat} (hn : n < S.ts.length) : Fin S 1 n (datatypesO S F rec d fr n) := by
 unfold datatypesO
 exact fin_bind (rowO_fin g hF (by simp) (fun k hk => dbindO_fin g hF hrec hk) hn) (b := 0) (by omega) (fun a m3 hm3 hl3 => fin_ok (by omega) hl3)
theorem specO_fin {n : Nat} (hn : n < S.ts.length) : Fin S 1 n (specO S F rec d n) := by
 unfold specO
 refine fin_if (fun h => ?_) (fun _ => fin_if (fun h => ?_) (fun _ => fin_if (fun h => ?_) (fun _ => fin_if (fun h => ?_) (fun _ => ?_))))
 ·refine (fin_bind (value_fin g (g.more hn (by simp) h)) (b := 0) (c := 0) (by omega) (fun x m hm hl => ?_)).at (by omega)
  refine fin_bind (need_fin g (by simp) hl) (b := 0) (by omega) (fun u m2 hm2 hl2 => ?_)
  exact fin_bind (hrec .ty _ hl2 trivial) (b := 0) (by omega) (fun a m5 hm5 hl5 => fin_ok (by omega) hl5)
 ·refine (fin_bind (typeNameO_fin g hF (g.more hn (by simp) h)) (b := 0) (c := 0) (by omega) (fun x m hm hl => fin_if (fun h => ?_) (fun _ => fin_ok (by omega) hl))).at (by omega)
  exact (fin_bind (hrec .ty _ (g.more hl (by simp) h) trivial) (b := 0) (c := 0) (by omega) (fun c m2 hm2 hl2 => fin_ok (by omega) hl2)).at (by omega)
 ·exact (datatypesO_fin g hF hrec n (g.more hn (by simp) h)).at (by omega)
 ·refine (fin_bind (take_fin g (by decide) (g.more hn (by simp) h)) (b := 0) (c := 0) (by omega) (fun x m hm hl => ?_)).at (by omega)
  refine fin_bind (need_fin g (by simp) hl) (b := 0) (by omega) (fun u m2 hm2 hl2 => ?_)
  exact fin_bind (hrec .sig _ hl2 trivial) (b := 0) (by omega) (fun a m5 hm5 hl5 => fin_ok (by omega) hl5)
 ·refine fin_bind (need_fin g (by simp) hn) (b := 0) (by omega) (fun u m2 hm2 hl2 => ?_)
  exact fin_bind (hrec .sig _ hl2 trivial) (b := 0) (by omega) (fun a m5 hm5 hl5 => fin_ok (by omega) hl5)
theorem specsL_fin : ∀ (f : Nat) (acc : List Pb) (n : Nat), n < S.ts.length → S.ts.length < f + n + 1 → Fin S 0 n (specsL S F rec d f acc n) := by
 intro f
 induction f with
 | zero => intro acc n hn hf; omega
 | succ f ih =>
  intro acc n hn hf
  unfold specsL
  refine fin_if (fun h => fin_ok (by omega) (g.more hn (by simp) h)) (fun _ => fin_if (fun h => ?_) (fun _ => ?_))
  ·exact (ih acc (n + 1) (g.more hn (by simp) h) (by omega)).at (by omega)
  ·exact fin_bind (specO_fin g hF hrec hn) (b := 0) (by omega) (fun x m hm hl => ih _ m hl (by omega))
theorem bareSigO_fin {n : Nat} (hn : n < S.ts.length) : Fin S 1 n (bareSigO S F rec d n) := by
 unfold bareSigO
 refine fin_if (fun h => ?_) (fun _ => ?_)
 ·have h1 := g.more hn (by simp) h
  exact (fin_bind (specsL_fin g hF hrec _ _ (n + 1) h1 (by omega)) (b := 0) (c := 0) (by omega) (fun a m5 hm5 hl5 => fin_ok (by omega) hl5)).at (by omega)
 ·exact fin_bind (take_fin g (by decide) hn) (b := 0) (by omega) (fun a m5 hm5 hl5 => fin_ok (by omega) hl5)
theorem whereL_fin (fr : Nat) : ∀ (f : Nat) (b : Pb) (n : Nat), n < S.ts.length → S.ts.length < f + n + 1 → Fin S 0 n (whereL S rec d fr f b n) := by
 have _ := hF
 intro f
 induction f with
 | zero => intro b n hn hf; omega
 | succ f ih =>
  intro b n hn hf
  unfold whereL
  refine fin_if (fun h => ?_) (fun _ => fin_ok (Nat.le_refl _) hn)
  have h1 := g.more hn (by simp) h
  refine (fin_bind (need_fin g (by simp) h1) (b := 0) (c := 0) (by omega) (fun u m hm hl => ?_)).at (by omega)
  refine fin_bind (typePath_fin g hl) (b := 0) (by omega) (fun p m2 hm2 hl2 => ?_)
  refine fin_bind (need_fin g (by simp) hl2) (b := 0) (by omega) (fun u m3 hm3 hl3 => ?_)
  exact fin_bind (hrec .ty _ hl3 trivial) (b := 0) (by omega) (fun c m4 hm4 hl4 => ih _ m4 hl4 (by omega))
theorem sigO_fin {n : Nat} (hn : n < S.ts.length) : Fin S 1 n (sigO S F rec d n) := by
 unfold sigO
 exact fin_bind (bareSigO_fin g hF hrec hn) (b := 0) (by omega) (fun b m hm hl => whereL_fin g hF hrec n _ _ m hl (by omega))
theorem bareStrO_fin {n : Nat} (hn : n < S.ts.length) : Fin S 1 n (bareStrO S F rec d n) := by
 unfold bareStrO
 refine fin_if (fun h => ?_) (fun _ => fin_if (fun h => ?_) (fun _ => ?_))
 ·refine (fin_bind (decsO_fin g hF hrec 1 (g.more hn (by simp) h)) (b := 0) (c := 0) (by omega) (fun l m hm hl => ?_)).at (by omega)
  exact fin_bind (need_fin g (by simp) hl) (b := 0) (by omega) (fun u m2 hm2 hl2 => fin_ok (by omega) hl2)
 ·simp only [Bool.and_eq_true, beq_iff_eq] at h
  have h1 := g.moreK hn (by omega)
  have h2 := g.more h1 (by simp) h.2
  refine (fin_bind (hrec .str _ h2 trivial) (b := 0) (c := 0) (by omega) (fun c m2 hm2 hl2 => ?_)).at (by omega)
  exact fin_bind (need_fin g (by simp) hl2) (b := 0) (by omega) (fun u m3 hm3 hl3 => fin_ok (by omega) hl3)
 ·exact fin_bind (path_fin g (by decide) hn) (b := 0) (by omega) (fun p m hm hl => fin_ok (by omega) hl)
theorem sealL_fin (fr : Nat) : ∀ (f : Nat) (b : Pb) (n : Nat), n < S.ts.length → S.ts.length < f + n + 1 → Fin S 0 n (sealL S rec d fr f b n) := by
 have _ := hF
 intro f
 induction f with
 | zero => intro b n hn hf; omega
 | succ f ih =>
  intro b n hn hf
  unfold sealL
  refine fin_if (fun _ => fin_ok (Nat.le_refl _) hn) (fun h => ?_)
  have h2 := (colon_fin g hn).2.2.1 (by simpa using h)
  have h1 := (colon_fin g hn).1
  rw [h2] at h1
  exact (fin_bind (hrec .sig _ h1 trivial) (b := 0) (c := 0) (by omega) (fun c m4 hm4 hl4 => ih _ m4 hl4 (by omega))).at (by omega)
theorem strO_fin {n : Nat} (hn : n < S.ts.length) : Fin S 1 n (strO S F rec d n) := by
 unfold strO
 exact fin_bind (bareStrO_fin g hF hrec hn) (b := 0) (by omega) (fun b m hm hl => sealL_fin g hF hrec n _ _ m hl (by omega))
theorem bodyO_fin {n : Nat} (hn : n < S.ts.length) : Fin S 1 n (bodyO S rec d n) := by
 have _ := hF
 unfold bodyO
 refine fin_bind (a := 0) (b := 1) (fin_if (fun _ => fin_ok (Nat.le_refl _) hn) (fun h => ?_)) (by omega) (fun l m hm hl => ?_)
 ·have h2 := (colon_fin g hn).2.2.1 (by simpa using h)
  have h1 := (colon_fin g hn).1
  rw [h2] at h1
  exact (fin_bind (hrec .sig _ h1 trivial) (b := 0) (c := 0) (by omega) (fun c m4 hm4 hl4 => fin_ok (by omega) hl4)).at (by omega)
 ·refine fin_bind (need_fin g (by simp) hl) (b := 0) (by omega) (fun u m2 hm2 hl2 => ?_)
  exact fin_bind (hrec .str _ hl2 trivial) (b := 0) (by omega) (fun c m4 hm4 hl4 => fin_ok (by omega) hl4)
theorem structureO_fin (fr : Nat) {n : Nat} (hn : n < S.ts.length) : Fin S 1 n (structureO S rec d fr n) := by
 unfold structureO
 refine fin_bind (take_fin g (by decide) hn) (b := 0) (by omega) (fun x m hm hl => ?_)
 exact fin_bind (bodyO_fin g hF hrec hl) (b := 0) (by omega) (fun c m4 hm4 hl4 => fin_ok (by omega) hl4)
theorem functorO_fin (fr : Nat) {n : Nat} (hn : n < S.ts.length) : Fin S 1 n (functorO S rec d fr n) := by
 unfold functorO
 refine fin_bind (take_fin g (by decide) hn) (b := 0) (by omega) (fun x m hm hl => ?_)
 refine fin_bind (need_fin g (by simp) hl) (b := 0) (by omega) (fun u m2 hm2 hl2 => ?_)
 refine fin_bind (take_fin g (by decide) hl2) (b := 0) (by omega) (fun x m3 hm3 hl3 => ?_)
 refine fin_bind (need_fin g (by simp) hl3) (b := 0) (by omega) (fun u m4 hm4 hl4 => ?_)
 refine fin_bind (hrec .sig _ hl4 trivial) (b := 0) (by omega) (fun c m5 hm5 hl5 => ?_)
 refine fin_bind (need_fin g (by simp) hl5) (b := 0) (by omega) (fun u m6 hm6 hl6 => ?_)
 exact fin_bind (bodyO_fin g hF hrec hl6) (b := 0) (by omega) (fun c m7 hm7 hl7 => fin_ok (by omega) hl7)
theorem funL_fin : ∀ (f : Nat) (acc : List Pb) (n : Nat), n < S.ts.length → S.ts.length < f + n + 1 → Fin S 0 n (funL S F rec d f acc n) := by
 intro f
 induction f with
 | zero => intro acc n hn hf; omega
 | succ f ih =>
  intro acc n hn hf
  unfold funL
  refine fin_if (fun h => ?_) (fun _ => fin_ok (Nat.le_refl _) hn)
  exact fin_bind (atomicPatO_fin g hF hrec hn) (b := 0) (by omega) (fun x m hm hl => ih _ m hl (by omega))
theorem functionO_fin {n : Nat} (hn : n < S.ts.length) : Fin S 1 n (functionO S F rec d n) := by
 unfold functionO
 refine fin_bind (value_fin g hn) (b := 0) (by omega) (fun x m hm hl => ?_)
 refine fin_bind (atomicPatO_fin g hF hrec hl) (b := 0) (by omega) (fun x m2 hm2 hl2 => ?_)
 refine fin_bind (funL_fin g hF hrec _ _ m2 hl2 (by omega)) (b := 0) (by omega) (fun x m3 hm3 hl3 => ?_)
 refine fin_bind (need_fin g (by simp) hl3) (b := 0) (by omega) (fun u m4 hm4 hl4 => ?_)
 exact fin_bind (hrec .exp _ hl4 trivial) (b := 0) (by omega) (fun c m5 hm5 hl5 => fin_ok (by omega) hl5)
theorem localO_fin (fr a : Nat) {n : Nat} (hn : n < S.ts.length) : Fin S 1 n (localO S F rec d fr a n) := by
 unfold localO
 refine fin_bind (withinO_fin g hF hrec a hn) (b := 1) (by omega) (fun x m hm hl => ?_)
 refine fin_bind (need_fin g (by simp) hl) (b := 0) (by omega) (fun u m2 hm2 hl2 => ?_)
 refine fin_bind (withinO_fin g hF hrec a hl2) (b := 0) (by omega) (fun x m3 hm3 hl3 => ?_)
 exact fin_bind (need_fin g (by simp) hl3) (b := 0) (by omega) (fun u m4 hm4 hl4 => fin_ok (by omega) hl4)
theorem decB_fin (a : Nat) {n : Nat} (hn1 : n + 1 < S.ts.length) : Fin S 1 n (decB S F rec d a n) := by
 unfold decB
 refine fin_if (fun h => ?_) (fun _ => fin_if (fun h => ?_) (fun _ => fin_if (fun h => ?_) (fun _ => fin_if (fun h => ?_) (fun _ => fin_if (fun h => ?_) (fun _ => fin_if (fun h => ?_) (fun _ => fin_if (fun h => ?_) (fun _ => fin_if (fun h => ?_) (fun _ => ?_))))))))
 ·refine (fin_bind (hrec .pat _ hn1 trivial) (b := 0) (c := 0) (by omega) (fun x m hm hl => ?_)).at (by omega)
  refine fin_bind (need_fin g (by simp) hl) (b := 0) (by omega) (fun u m2 hm2 hl2 => ?_)
  exact fin_bind (hrec .exp _ hl2 trivial) (b := 0) (by omega) (fun c m5 hm5 hl5 => fin_ok (by omega) hl5)
 ·exact (fin_bind (rowO_fin g hF (by simp) (fun k hk => functionO_fin g hF hrec hk) hn1) (b := 0) (c := 0) (by omega) (fun a m3 hm3 hl3 => fin_ok (by omega) hl3)).at (by omega)
 ·refine (fin_bind (typeNameO_fin g hF hn1) (b := 0) (c := 0) (by omega) (fun x m hm hl => ?_)).at (by omega)
  refine fin_bind (need_fin g (by simp) hl) (b := 0) (by omega) (fun u m2 hm2 hl2 => ?_)
  exact fin_bind (hrec .ty _ hl2 trivial) (b := 0) (by omega) (fun c m5 hm5 hl5 => fin_ok (by omega) hl5)
 ·exact (datatypesO_fin g hF hrec n hn1).at (by omega)
 ·exact (structureO_fin g hF hrec n hn1).at (by omega)
 ·refine (fin_bind (take_fin g (by decide) hn1) (b := 0) (c := 0) (by omega) (fun x m hm hl => ?_)).at (by omega)
  refine fin_bind (need_fin g (by simp) hl) (b := 0) (by omega) (fun u m2 hm2 hl2 => ?_)
  exact fin_bind (hrec .sig _ hl2 trivial) (b := 0) (by omega) (fun c m5 hm5 hl5 => fin_ok (by omega) hl5)
 ·exact (functorO_fin g hF hrec n hn1).at (by omega)
 ·exact (fin_bind (path_fin g (by decide) hn1) (b := 0) (c := 0) (by omega) (fun c m5 hm5 hl5 => fin_ok (by omega) hl5)).at (by omega)
 ·exact (localO_fin g hF hrec n a hn1).at (by omega)
theorem decO_fin (a : Nat) {n : Nat} (hn1 : n + 1 < S.ts.length) : Fin S 1 n (decO S F rec d a n) := by
 unfold decO
 exact fin_if (fun _ => decB_fin g hF hrec a hn1) (fun _ => by show _ < S.ts.length; omega)
end
theorem parts_fin : ∀ (f : Nat) (nt : Nt) (d n : Nat), d ≤ 256 → n < S.ts.length → S.may nt n → S.ts.length + 257 ≤ f + d → Fin S 1 n (parts S f nt d n) := by
 intro f
 induction f with
 | zero => intro nt d n hd hn _ hf; omega
 | succ f ih =>
  intro nt d n hd hn hmay hf
  unfold parts
  refine fin_if (fun _ => by show _ < S.ts.length; omega) (fun h => ?_)
  have h256 : d ≠ 256 := by simpa using h
  have hrec : ∀ nt k, k < S.ts.length → S.may nt k → Fin S 1 k (parts S f nt (d + 1) k) := fun nt k hk hm => ih nt (d + 1) k (by omega) hk hm (by omega)
  have hF : S.ts.length ≤ f := by omega
  cases nt with
  | exp => exact expO_fin g hF hrec hn
  | pat => exact patO_fin g hF hrec hn
  | ty => exact tyO_fin g hF hrec hn
  | sig => exact sigO_fin g hF hrec hn
  | str => exact strO_fin g hF hrec hn
  | dec a => exact decO_fin g hF hrec a (declares_more g hn hmay)
theorem fileO_fin {F : Nat} (hF : S.ts.length + 257 ≤ F) {n : Nat} (hn : n < S.ts.length) : Fin S 0 n (fileO S F n) := by
 unfold fileO
 exact fin_bind (decsO_fin g (F := F) (by omega) (rec := parts S F) (d := 0) (fun nt k hk hm => parts_fin g F nt 0 k (by omega) hk hm (by omega)) 2 hn) (b := 0) (by omega) (fun l m hm hl => fin_ok (by omega) hl)
theorem whole_fin (hp : 0 < S.ts.length) : Fin S 0 0 (wholeO S (fileS S)) := by
 unfold wholeO
 exact fin_bind (fileO_fin g (F := fuel S) (Nat.le_refl _) hp) (b := 0) (by omega) (fun b m hm hl => fin_if (fun _ => fin_ok (by omega) hl) (fun _ => by show _ < S.ts.length; omega))
theorem form_in (hp : 0 < S.ts.length) {n : Nat} (h : wholeO S (fileS S) = .form n) : n < S.ts.length := by
 have := whole_fin g hp
 rw [h] at this
 exact this
theorem deep_in (hp : 0 < S.ts.length) {n : Nat} (h : wholeO S (fileS S) = .deep n) : n < S.ts.length := by
 have := whole_fin g hp
 rw [h] at this
 exact this
end
end Go.Proofs.YtkjgkchdkeggoaaGreatDoor.Inn

namespace Go.Proofs.YtkjgkchdkeggoaaGreatDoor
open Go.RowKit
set_option maxRecDepth 20000
set_option linter.unusedVariables false
set_option linter.unusedSimpArgs false

def Pb.fr : Pb → Int | .mk _ _ f _ _ _ => f
def Pb.to : Pb → Int | .mk _ _ _ t _ _ => t
mutual
/-- How often a branch has a name. -/
def Pb.cnt (x : Int) : Pb → Nat
 | .mk _ _ _ _ ns ks => ns.count x + cntL x ks
def cntL (x : Int) : List Pb → Nat
 | [] => 0
 | b :: r => b.cnt x + cntL x r
end
mutual
/-- A branch is right, and all of its parts have kinds. -/
def Pb.Rt : Pb → Prop
 | .mk k _ f t ns ks => 0 < k ∧ 0 ≤ f ∧ f ≤ t ∧ (∀ n ∈ ns, f ≤ n ∧ n < t) ∧ ChainP f t ks
def ChainP (f t : Int) : List Pb → Prop
 | [] => f ≤ t
 | b :: r => b.Rt ∧ f ≤ b.fr ∧ ChainP b.to t r
end
theorem cntL_append (x : Int) (a b : List Pb) : cntL x (a ++ b) = cntL x a + cntL x b := by
 induction a with
 | nil => simp [cntL]
 | cons y r ih => simp [cntL, ih]; omega
theorem Pb.Rt.le {b : Pb} (h : b.Rt) : 0 ≤ b.fr ∧ b.fr ≤ b.to := by
 cases b; simp only [Pb.Rt] at h; exact ⟨h.2.1, h.2.2.1⟩
theorem ChainP.le {f t : Int} : ∀ {l : List Pb}, ChainP f t l → f ≤ t := by
 intro l
 induction l generalizing f with
 | nil => intro h; exact h
 | cons b r ih => intro h; simp only [ChainP] at h; have := ih h.2.2; have := h.1.le; omega
theorem ChainP.low {f f' t : Int} (hf : f' ≤ f) : ∀ {l : List Pb}, ChainP f t l → ChainP f' t l := by
 intro l h
 cases l with
 | nil => simp only [ChainP] at h ⊢; omega
 | cons b r => simp only [ChainP] at h ⊢; exact ⟨h.1, by omega, h.2.2⟩
theorem ChainP.cat {m t : Int} : ∀ {f : Int} {l r : List Pb}, ChainP f m l → ChainP m t r → ChainP f t (l ++ r) := by
 intro f l
 induction l generalizing f with
 | nil => intro r h1 h2; simp only [ChainP] at h1; exact h2.low h1
 | cons b l ih => intro r h1 h2; simp only [ChainP, List.cons_append] at h1 ⊢; exact ⟨h1.1, h1.2.1, ih h1.2.2 h2⟩
theorem ChainP.up {f t t' : Int} {l : List Pb} (h : ChainP f t l) (ht : t ≤ t') : ChainP f t' l := by
 have := ChainP.cat (r := []) h (by simpa only [ChainP] using ht)
 simpa using this

/-- Is token n a name? -/
def Src.nm (S : Src) (n : Nat) : Bool := S.kd n == 6 || S.kd n == 7 || S.kd n == 9
/-- From n on up to m each name is counted, once; a * may be left out. -/
structure Cov (S : Src) (n m : Nat) (c : Int → Nat) : Prop where
 le : n ≤ m
 one : ∀ x, c x ≤ 1
 inn : ∀ x, 0 < c x → (n : Int) ≤ x ∧ x < (m : Int)
 nm : ∀ x : Nat, 0 < c (x : Int) → S.nm x = true
 all : ∀ x : Nat, n ≤ x → x < m → S.nm x = true → S.is x [42] = false → 0 < c (x : Int)
abbrev Skip (S : Src) (n m : Nat) : Prop := Cov S n m fun _ => 0
section
variable {S : Src}
theorem Cov.ext {n m : Nat} {c d : Int → Nat} (h : Cov S n m c) (e : ∀ x, d x = c x) : Cov S n m d := by
 have : d = c := funext e
 subst this; exact h
theorem Cov.add {n m k : Nat} {c d : Int → Nat} (h : Cov S n m c) (g : Cov S m k d) : Cov S n k fun x => c x + d x where
 le := Nat.le_trans h.le g.le
 one x := by
  rcases Nat.eq_zero_or_pos (c x) with hc | hc
  ·have := g.one x; omega
  ·rcases Nat.eq_zero_or_pos (d x) with hd | hd
   ·have := h.one x; omega
   ·have := h.inn x hc; have := g.inn x hd; omega
 inn x hx := by
  have h1 := h.le; have h2 := g.le
  rcases Nat.eq_zero_or_pos (c x) with hc | hc
  ·have := g.inn x (by omega); omega
  ·have := h.inn x hc; omega
 nm x hx := by
  rcases Nat.eq_zero_or_pos (c x) with hc | hc
  ·exact g.nm x (by omega)
  ·exact h.nm x hc
 all x h1 h2 h3 h4 := by
  rcases Nat.lt_or_ge x m with hx | hx
  ·have := h.all x h1 hx h3 h4; omega
  ·have := g.all x hx h2 h3 h4; omega
theorem Skip.nil (n : Nat) : Skip S n n := ⟨Nat.le_refl _, fun _ => by omega, fun _ h => by omega, fun _ h => by omega, fun x h1 h2 => by omega⟩
theorem skip_one {n : Nat} (h : S.nm n = false ∨ S.is n [42] = true) : Skip S n (n + 1) :=
 ⟨by omega, fun _ => by omega, fun _ h => by omega, fun _ h => by omega, fun x h1 h2 h3 h4 => by
  have : x = n := by omega
  subst this
  rcases h with h | h
  ·rw [h3] at h; cases h
  ·rw [h4] at h; cases h⟩
theorem Skip.cat {n m k : Nat} (h : Skip S n m) (g : Skip S m k) : Skip S n k := (h.add g).ext fun _ => rfl
theorem Cov.skip {n m k : Nat} {c : Int → Nat} (h : Cov S n m c) (g : Skip S m k) : Cov S n k c := (h.add g).ext fun _ => rfl
theorem Skip.then {n m k : Nat} {c : Int → Nat} (g : Skip S n m) (h : Cov S m k c) : Cov S n k c := (g.add h).ext fun x => by simp

def cnN (l : List Nat) (x : Int) : Nat := (l.map fun y : Nat => (y : Int)).count x
theorem cnN_nil (x : Int) : cnN [] x = 0 := rfl
theorem cnN_append (a b : List Nat) (x : Int) : cnN (a ++ b) x = cnN a x + cnN b x := by simp [cnN, List.count_append]
theorem name_one {n : Nat} (h : S.nm n = true) : Cov S n (n + 1) (cnN [n]) := by
 have e : ∀ x : Int, cnN [n] x = if x = n then 1 else 0 := fun x => by
  by_cases hx : x = (n : Int)
  ·subst hx; simp [cnN]
  ·simp only [cnN, List.map_cons, List.map_nil, hx, if_false]
   rw [List.count_cons_of_ne (fun e => hx e.symm)]; rfl
 refine ⟨by omega, fun x => by rw [e]; split <;> omega, fun x hx => ?_, fun x hx => ?_, fun x h1 h2 h3 _ => ?_⟩
 ·rw [e] at hx; split at hx <;> omega
 ·rw [e] at hx
  split at hx
  ·have : x = n := by omega
   subst this; exact h
  ·omega
 ·have : x = n := by omega
  subst this
  rw [e, if_pos rfl]; omega

/-- What a call comes to, if it comes to something. -/
def Ret {α : Type} (o : Out α) (P : α → Nat → Prop) : Prop := ∀ x m, o = .ok x m → P x m
theorem ret_bind {α β : Type} {o : Out α} {f : α → Nat → Out β} {P : α → Nat → Prop} {Q : β → Nat → Prop} (h : Ret o P) (hf : ∀ x m, P x m → Ret (f x m) Q) : Ret (o.bind f) Q := by
 intro x m e
 cases o with
 | ok a n => exact hf a n (h a n rfl) x m e
 | form n => cases e
 | deep n => cases e
 | dry => cases e
theorem ret_ok {α : Type} {x : α} {m : Nat} {P : α → Nat → Prop} (h : P x m) : Ret (.ok x m) P := by
 intro y k e
 injection e with e1 e2
 subst e1 e2; exact h
theorem ret_form {α : Type} {n : Nat} {P : α → Nat → Prop} : Ret (.form n : Out α) P := fun _ _ e => by cases e
theorem ret_deep {α : Type} {n : Nat} {P : α → Nat → Prop} : Ret (.deep n : Out α) P := fun _ _ e => by cases e
theorem ret_dry {α : Type} {P : α → Nat → Prop} : Ret (.dry : Out α) P := fun _ _ e => by cases e
theorem ret_if {α : Type} {c : Bool} {a b : Out α} {P : α → Nat → Prop} (ha : c = true → Ret a P) (hb : c = false → Ret b P) : Ret (bif c then a else b) P := by
 cases c
 ·exact hb rfl
 ·exact ha rfl
theorem Ret.mono {α : Type} {o : Out α} {P Q : α → Nat → Prop} (h : Ret o P) (hq : ∀ x m, P x m → Q x m) : Ret o Q := fun x m e => hq x m (h x m e)

/-- A branch, branches, names from n on up to m. -/
structure QB (S : Src) (n : Nat) (b : Pb) (m : Nat) : Prop where
 rt : b.Rt
 lo : (n : Int) ≤ b.fr
 hi : b.to ≤ (m : Int)
 cov : Cov S n m fun x => b.cnt x
structure QL (S : Src) (n : Nat) (l : List Pb) (m : Nat) : Prop where
 ch : ChainP n m l
 cov : Cov S n m fun x => cntL x l
structure QN (S : Src) (n : Nat) (l : List Nat) (m : Nat) : Prop where
 inn : ∀ x ∈ l, n ≤ x ∧ x < m
 cov : Cov S n m (cnN l)
theorem QL.nil (n : Nat) : QL S n [] n := ⟨by simp [ChainP], (Skip.nil n).ext fun _ => rfl⟩
theorem QL.skip {n m k : Nat} {l : List Pb} (h : QL S n l m) (g : Skip S m k) : QL S n l k := ⟨h.ch.up (by have := g.le; omega), h.cov.skip g⟩
theorem Skip.ql {n m k : Nat} {l : List Pb} (g : Skip S n m) (h : QL S m l k) : QL S n l k := ⟨h.ch.low (by have := g.le; omega), g.then h.cov⟩
theorem QL.cat {n m k : Nat} {l r : List Pb} (h : QL S n l m) (g : QL S m r k) : QL S n (l ++ r) k := ⟨h.ch.cat g.ch, (h.cov.add g.cov).ext fun x => cntL_append x l r⟩
theorem QB.ql {n m : Nat} {b : Pb} (h : QB S n b m) : QL S n [b] m := ⟨by simp only [ChainP]; exact ⟨h.rt, h.lo, h.hi⟩, h.cov.ext fun x => by simp [cntL]⟩
theorem QL.one {n m : Nat} {b : Pb} (h : QL S n [b] m) : QB S n b m := by
 have hc := h.ch
 simp only [ChainP] at hc
 exact ⟨hc.1, hc.2.1, hc.2.2, h.cov.ext fun x => by simp [cntL]⟩
theorem QB.skip {n m k : Nat} {b : Pb} (h : QB S n b m) (g : Skip S m k) : QB S n b k := (h.ql.skip g).one
theorem Skip.qb {n m k : Nat} {b : Pb} (g : Skip S n m) (h : QB S m b k) : QB S n b k := (g.ql h.ql).one
theorem QN.nil (n : Nat) : QN S n [] n := ⟨fun x hx => (by cases hx), (Skip.nil n).ext fun _ => rfl⟩
theorem QN.skip {n m k : Nat} {l : List Nat} (h : QN S n l m) (g : Skip S m k) : QN S n l k := ⟨fun x hx => by have := h.inn x hx; have := g.le; omega, h.cov.skip g⟩
theorem Skip.qn {n m k : Nat} {l : List Nat} (g : Skip S n m) (h : QN S m l k) : QN S n l k := ⟨fun x hx => by have := h.inn x hx; have := g.le; omega, g.then h.cov⟩
theorem QN.cat {n m k : Nat} {l r : List Nat} (h : QN S n l m) (g : QN S m r k) : QN S n (l ++ r) k :=
 ⟨fun x hx => by
  have h1 := h.cov.le; have h2 := g.cov.le
  rcases List.mem_append.1 hx with hx | hx
  ·have := h.inn x hx; omega
  ·have := g.inn x hx; omega, (h.cov.add g.cov).ext fun x => cnN_append l r x⟩
/-- A branch of names and parts, in whichever order these stand. -/
theorem node_mix {k : Int} {n m : Nat} {ns : List Nat} {l : List Pb} {c : Int → Nat} (hk : 0 < k) (hn : ∀ x ∈ ns, n ≤ x ∧ x < m) (hl : ChainP n m l) (hc : Cov S n m c) (he : ∀ x, cnN ns x + cntL x l = c x) : QB S n (node k n m ns l) m := by
 refine ⟨?_, ?_, ?_, hc.ext fun x => ?_⟩
 ·have := hc.le
  simp only [node, Pb.Rt]
  refine ⟨hk, by omega, by omega, fun x hx => ?_, hl⟩
  obtain ⟨y, hy, rfl⟩ := List.mem_map.1 hx
  have := hn y hy; omega
 ·simp [node, Pb.fr]
 ·simp [node, Pb.to]
 ·simp only [node, Pb.cnt]; exact he x
theorem node_ks {k : Int} {n m : Nat} {l : List Pb} (hk : 0 < k) (h : QL S n l m) : QB S n (node k n m [] l) m :=
 node_mix hk (fun x hx => by cases hx) h.ch h.cov (fun x => by simp [cnN_nil])
theorem node_ns {k : Int} {n m : Nat} {ns : List Nat} (hk : 0 < k) (h : QN S n ns m) : QB S n (node k n m ns []) m :=
 node_mix hk h.inn (by simp only [ChainP]; have := h.cov.le; omega) h.cov (fun x => by simp [cntL])
theorem node_nk {k : Int} {n j m : Nat} {ns : List Nat} {l : List Pb} (hk : 0 < k) (h : QN S n ns j) (g : QL S j l m) : QB S n (node k n m ns l) m :=
 node_mix hk (fun x hx => by have := h.inn x hx; have := g.cov.le; omega) (g.ch.low (by have := h.cov.le; omega)) (h.cov.add g.cov) (fun x => rfl)
theorem node_kn {k : Int} {n j m : Nat} {ns : List Nat} {l : List Pb} (hk : 0 < k) (g : QL S n l j) (h : QN S j ns m) : QB S n (node k n m ns l) m :=
 node_mix hk (fun x hx => by have := h.inn x hx; have := g.cov.le; omega) (g.ch.up (by have := h.cov.le; omega)) (g.cov.add h.cov) (fun x => Nat.add_comm _ _)
theorem node_knk {k : Int} {n i j m : Nat} {ns : List Nat} {l r : List Pb} (hk : 0 < k) (g : QL S n l i) (h : QN S i ns j) (g2 : QL S j r m) : QB S n (node k n m ns (l ++ r)) m := by
 have h1 := g.cov.le; have h2 := h.cov.le; have h3 := g2.cov.le
 exact node_mix hk (fun x hx => by have := h.inn x hx; omega) ((g.ch.up (by omega)).cat (g2.ch)) ((g.cov.add h.cov).add g2.cov) (fun x => by rw [cntL_append]; omega)
theorem QB.marked {n m : Nat} {b : Pb} {k : Int} (h : QB S n b m) : QB S n (marked k b) m := by
 obtain ⟨h1, h2, h3, h4⟩ := h
 cases b
 exact ⟨by simpa only [Go.Proofs.YtkjgkchdkeggoaaGreatDoor.marked, Pb.Rt] using h1, h2, h3, h4.ext fun x => by simp only [Go.Proofs.YtkjgkchdkeggoaaGreatDoor.marked, Pb.cnt]⟩
theorem oneOr_ks {k : Int} {n m : Nat} {l : List Pb} (hk : 0 < k) (h : QL S n l m) : QB S n (oneOr l k n m []) m := by
 unfold oneOr
 split
 ·exact h.one
 ·exact node_ks hk h
end

/-- Of words and marks: no name is spelled so, but *. -/
def noName (t : List UInt8) : Bool := t == [42] || !((tokN t).1 == 6 || (tokN t).1 == 7 || (tokN t).1 == 9)
theorem pick_sub (ask : Int → Bool) (l : List Tok) : ∀ t ∈ pickT ask l, t ∈ l := by
 induction l with
 | nil => intro t h; exact h
 | cons x r ih =>
  intro t h
  unfold pickT at h
  cases hx : ask x.k <;> rw [hx] at h
  ·exact List.mem_cons_of_mem _ (ih t h)
  ·rcases List.mem_cons.1 h with rfl | h
   ·exact List.mem_cons_self
   ·exact List.mem_cons_of_mem _ (ih t h)
theorem kd_tok {S : Src} (T : S.ts = wordsT S.s) (n : Nat) : S.kd n = (tokN (S.tx n).data.toList).1 := by
 unfold Src.kd Src.tx
 cases h : S.ts[n]? with
 | none => rfl
 | some t =>
  have hm : t ∈ scanT S.s := by
   have : t ∈ S.ts := List.mem_of_getElem? h
   rw [T] at this
   unfold wordsT at this
   exact pick_sub _ _ _ this
  obtain ⟨h1, h2⟩ := restT_mem S.s 0 (by omega) t hm
  simp only
  by_cases hlt : t.a < S.s.size
  ·have e := tokAt_in S.s t.a hlt
   rw [← h2] at e
   have hne : S.s.data.toList.drop t.a ≠ [] := by rw [drop_at S.s t.a hlt]; simp
   have ha := tok_again (S.s.data.toList.drop t.a) hne
   have ek : t.k = (tokN (S.s.data.toList.drop t.a)).1 := congrArg Tok.k e
   have ee : t.e = t.a + (tokN (S.s.data.toList.drop t.a)).2 := congrArg Tok.e e
   rw [ee, extract_drop, ha, ek]
  ·have : t.a = S.s.size := by omega
   rw [this, tokAt_end] at h2
   have hk : t.k = 0 := congrArg Tok.k h2
   have he : t.e = S.s.size := congrArg Tok.e h2
   rw [hk, he, this]
   have : (S.s.extract S.s.size S.s.size).data.toList = [] := by
    apply List.eq_nil_of_length_eq_zero
    simp
   rw [this]; rfl
section
variable {S : Src} (T : S.ts = wordsT S.s)
include T
theorem skip_is {t : List UInt8} (ht : noName t = true) {n : Nat} (h : S.is n t = true) : Skip S n (n + 1) := by
 have e : (S.tx n).data.toList = t := by unfold Src.is at h; simpa using h
 have hk := kd_tok T n
 rw [e] at hk
 unfold noName at ht
 refine skip_one ?_
 rcases Bool.or_eq_true_iff.1 ht with h1 | h1
 ·right; rw [beq_iff_eq.1 h1] at h; exact h
 ·left; unfold Src.nm; rw [hk]; simpa using h1
omit T in
theorem skip_kd {n : Nat} {k : Int} (h : (S.kd n == k) = true) (hk : (k == 6 || k == 7 || k == 9) = false) : Skip S n (n + 1) := by
 refine skip_one (.inl ?_)
 unfold Src.nm
 rw [beq_iff_eq.1 h]; exact hk
theorem need_rt {t : List UInt8} (ht : noName t = true) (n : Nat) : Ret (S.need t n) fun _ m => Skip S n m := by
 unfold Src.need
 exact ret_if (fun h => ret_ok (skip_is T ht h)) (fun _ => ret_form)
omit T in
theorem take_nm {ks : List Int} (hk : ∀ k ∈ ks, (k == 6 || k == 7 || k == 9) = true) (n : Nat) : Ret (S.take ks n) fun x m => QN S n [x] m := by
 unfold Src.take
 refine ret_if (fun h => ret_ok ⟨fun x hx => ?_, name_one ?_⟩) (fun _ => ret_form)
 ·have : x = n := by simpa using hx
  omega
 ·exact hk _ (by simpa using h)
omit T in
theorem take_sk (n : Nat) : Ret (S.take [8] n) fun _ m => Skip S n m := by
 unfold Src.take
 refine ret_if (fun h => ret_ok (skip_kd (k := 8) ?_ rfl)) (fun _ => ret_form)
 simpa using h
theorem pathL_rt {ks : List Int} (hk : ∀ k ∈ ks, (k == 6 || k == 7 || k == 9) = true) (p : Nat) : ∀ (f : Nat) (acc : List Nat) (n : Nat), QN S p acc n → Ret (S.pathL ks f acc n) fun l m => QN S p l m := by
 intro f
 induction f with
 | zero => intro acc n _; exact ret_dry
 | succ f ih =>
  intro acc n h
  unfold Src.pathL
  refine ret_if (fun hc => ?_) (fun _ => ret_ok h)
  simp only [Bool.and_eq_true] at hc
  have hs := skip_is T (t := [46]) (by kernel_rfl) hc.2
  exact ret_bind (take_nm hk (n + 1)) (fun x m hx => ih _ _ (h.cat (hs.qn hx)))
theorem path_rt {ks : List Int} (hk : ∀ k ∈ ks, (k == 6 || k == 7 || k == 9) = true) (n : Nat) : Ret (S.path ks n) fun l m => QN S n l m := by
 unfold Src.path
 exact ret_bind (take_nm hk n) (fun x m hx => pathL_rt T hk n _ _ _ hx)
theorem typePath_rt (n : Nat) : Ret (S.typePath n) fun l m => QN S n l m := by
 unfold Src.typePath
 exact ret_bind (path_rt T (by decide) n) (fun p m hp => ret_if (fun _ => ret_ok hp) (fun _ => ret_form))
theorem value_rt (n : Nat) : Ret (S.value n) fun x m => QN S n [x] m := by
 unfold Src.value
 refine ret_if (fun h => ?_) (fun _ => take_nm (by decide) n)
 exact (take_nm (by decide) (n + 1)).mono fun x m hx => (skip_is T (by kernel_rfl) h).qn hx
theorem rowL_rt {mark : List UInt8} (hm : noName mark = true) {read : Nat → Out Pb} (hr : ∀ k, Ret (read k) fun b m => QB S k b m) (p : Nat) : ∀ (f : Nat) (acc : List Pb) (n : Nat), QL S p acc n → Ret (rowL S mark read f acc n) fun l m => QL S p l m := by
 intro f
 induction f with
 | zero => intro acc n _; exact ret_dry
 | succ f ih =>
  intro acc n h
  unfold rowL
  refine ret_if (fun hc => ?_) (fun _ => ret_ok h)
  exact ret_bind (hr (n + 1)) (fun b m hb => ih _ _ (h.cat ((skip_is T hm hc).ql hb.ql)))
theorem rowO_rt (F : Nat) {mark : List UInt8} (hm : noName mark = true) {read : Nat → Out Pb} (hr : ∀ k, Ret (read k) fun b m => QB S k b m) (n : Nat) : Ret (rowO S F mark read n) fun l m => QL S n l m := by
 unfold rowO
 exact ret_bind (hr n) (fun b m hb => rowL_rt T hm hr n F [b] m hb.ql)
theorem colon_rt (n : Nat) (h : ((S.colon n).1 == 0) = false) : Skip S n (n + 1) := by
 unfold Src.colon at h
 cases h1 : S.is n [58]
 ·cases h2 : S.is n [58, 62]
  ·rw [h1, h2] at h; cases h
  ·exact skip_is T (by kernel_rfl) h2
 ·exact skip_is T (by kernel_rfl) h1
section
variable {F : Nat} {rec : Nt → Nat → Nat → Out Pb} {d : Nat} (hrec : ∀ nt k, S.may nt k → Ret (rec nt d k) fun b m => QB S k b m)
include hrec
theorem atomicTyO_rt (n : Nat) : Ret (atomicTyO S F rec d n) fun b m => QB S n b m := by
 unfold atomicTyO
 refine ret_if (fun h => ret_ok (node_ks (by decide) ((QL.nil n).skip (skip_kd h rfl)))) (fun _ => ret_if (fun h => ?_) (fun _ => ?_))
 ·refine ret_bind (rowO_rt T F (by kernel_rfl) (fun k => hrec .ty k trivial) (n + 1)) (fun l m hl => ?_)
  refine ret_bind (need_rt T (by kernel_rfl) m) (fun _ m2 h2 => ?_)
  have hl2 := (skip_is T (by kernel_rfl) h).ql (hl.skip h2)
  unfold pick1
  split
  ·exact ret_ok hl2.one
  ·exact ret_bind (typePath_rt T m2) (fun p m3 hp => ret_ok (node_kn (by decide) hl2 hp))
 ·exact ret_bind (typePath_rt T n) (fun p m3 hp => ret_ok (node_ns (by decide) hp))
theorem appliedL_rt (n : Nat) : ∀ (f : Nat) (b : Pb) (m : Nat), QB S n b m → Ret (appliedL S n f b m) fun b m => QB S n b m := by
 have _ := hrec
 intro f
 induction f with
 | zero => intro b m _; exact ret_dry
 | succ f ih =>
  intro b m h
  unfold appliedL
  exact ret_if (fun _ => ret_bind (typePath_rt T m) (fun p m1 hp => ih _ _ (node_kn (by decide) h.ql hp))) (fun _ => ret_ok h)
theorem appliedO_rt (n : Nat) : Ret (appliedO S F rec d n) fun b m => QB S n b m := by
 unfold appliedO
 exact ret_bind (atomicTyO_rt T hrec n) (fun b m hb => appliedL_rt T hrec n F b m hb)
theorem productO_rt (n : Nat) : Ret (productO S F rec d n) fun b m => QB S n b m := by
 unfold productO
 exact ret_bind (rowO_rt T F (by kernel_rfl) (appliedO_rt T hrec) n) (fun l m hl => ret_ok (oneOr_ks (by decide) hl))
theorem tyO_rt (n : Nat) : Ret (tyO S F rec d n) fun b m => QB S n b m := by
 unfold tyO
 refine ret_bind (productO_rt T hrec n) (fun b m hb => ret_if (fun h => ?_) (fun _ => ret_ok hb))
 exact ret_bind (hrec .ty (m + 1) trivial) (fun c m2 hc => ret_ok (node_ks (by decide) (hb.ql.cat ((skip_is T (by kernel_rfl) h).ql hc.ql))))
omit hrec in
theorem tupleO_rt {fr n : Nat} (hs : Skip S fr n) {member : Nat → Out Pb} (hm : ∀ k, Ret (member k) fun b m => QB S k b m) : Ret (tupleO S F fr member n) fun b m => QB S fr b m := by
 unfold tupleO
 refine ret_if (fun h => ret_ok (node_ks (by decide) ((QL.nil fr).skip (hs.cat (skip_is T (by kernel_rfl) h))))) (fun _ => ?_)
 refine ret_bind (rowO_rt T F (by kernel_rfl) hm n) (fun l m hl => ?_)
 exact ret_bind (need_rt T (by kernel_rfl) m) (fun _ m2 h2 => ret_ok (oneOr_ks (by decide) (hs.ql (hl.skip h2))))
omit hrec in
theorem plainO_rt {named : Int} (hk : 0 < named) {member : Nat → Out Pb} (hm : ∀ k, Ret (member k) fun b m => QB S k b m) (n : Nat) : Ret (plainO S F named member n) fun b m => QB S n b m := by
 unfold plainO
 refine ret_if (fun h => ret_ok (node_ks (by decide) ((QL.nil n).skip (skip_kd h rfl)))) (fun _ => ret_if (fun h => ret_ok (node_ks (by decide) ((QL.nil n).skip (skip_kd h rfl)))) (fun _ => ret_if (fun h => ?_) (fun _ => ?_)))
 ·exact tupleO_rt T (skip_is T (by kernel_rfl) h) hm
 ·exact ret_bind (value_rt T n) (fun x m hx => ret_ok (node_ns hk hx))
theorem atomicPatO_rt (n : Nat) : Ret (atomicPatO S F rec d n) fun b m => QB S n b m := by
 unfold atomicPatO
 refine ret_if (fun h => ret_ok (node_ks (by decide) ((QL.nil n).skip (skip_is T (by kernel_rfl) h)))) (fun _ => ret_if (fun _ => ?_) (fun _ => plainO_rt T (by decide) (fun k => hrec .pat k trivial) n))
 exact ret_bind (path_rt T (by decide) n) (fun p m hp => ret_ok (node_ns (by decide) hp))
theorem patO_rt (n : Nat) : Ret (patO S F rec d n) fun b m => QB S n b m := by
 unfold patO
 refine ret_if (fun h => ?_) (fun _ => ret_if (fun _ => ?_) (fun _ => atomicPatO_rt T hrec n))
 ·simp only [Bool.and_eq_true, beq_iff_eq] at h
  have h1 : QN S n [n] (n + 1) := ⟨fun x hx => by have : x = n := (by simpa using hx); omega, name_one (by unfold Src.nm; rw [h.1]; rfl)⟩
  exact ret_bind (hrec .pat (n + 2) trivial) (fun b m hb => ret_ok (node_nk (by decide) h1 ((skip_is T (by kernel_rfl) h.2).ql hb.ql)))
 ·refine ret_bind (path_rt T (by decide) n) (fun p m hp => ret_if (fun _ => ?_) (fun _ => ret_ok (node_ns (by decide) hp)))
  exact ret_bind (atomicPatO_rt T hrec m) (fun b m2 hb => ret_ok (node_nk (by decide) hp hb.ql))
theorem decsL_rt (a p : Nat) : ∀ (f : Nat) (acc : List Pb) (n : Nat), QL S p acc n → Ret (decsL S rec d a f acc n) fun l m => QL S p l m := by
 intro f
 induction f with
 | zero => intro acc n _; exact ret_dry
 | succ f ih =>
  intro acc n h
  unfold decsL
  refine ret_if (fun hc => ih _ _ (h.skip (skip_is T (by kernel_rfl) hc))) (fun _ => ret_if (fun hd => ?_) (fun _ => ret_ok h))
  exact ret_bind (hrec (.dec a) n hd) (fun b m hb => ih _ _ (h.cat hb.ql))
theorem decsO_rt (a n : Nat) : Ret (decsO S F rec d a n) fun l m => QL S n l m := decsL_rt T hrec a n F [] n (QL.nil n)
theorem withinO_rt (a n : Nat) : Ret (withinO S F rec d a n) fun b m => QB S n b m := by
 unfold withinO
 exact ret_bind (decsO_rt T hrec a n) (fun l m hl => ret_ok (node_ks (by decide) hl))
theorem atomO_rt (n : Nat) : Ret (atomO S F rec d n) fun b m => QB S n b m := by
 unfold atomO
 refine ret_if (fun _ => ?_) (fun _ => ret_if (fun h => ?_) (fun _ => plainO_rt T (by decide) (fun k => hrec .exp k trivial) n))
 ·exact ret_bind (path_rt T (by decide) n) (fun p m hp => ret_if (fun _ => ret_ok (node_ns (by decide) hp)) (fun _ => ret_ok (node_ns (by decide) hp)))
 ·refine ret_bind (withinO_rt T hrec 0 (n + 1)) (fun ds m hd => ?_)
  refine ret_bind (need_rt T (by kernel_rfl) m) (fun _ m2 h2 => ?_)
  refine ret_bind (hrec .exp m2 trivial) (fun e m3 he => ?_)
  exact ret_bind (need_rt T (by kernel_rfl) m3) (fun _ m4 h4 => ret_ok (node_ks (by decide) (((skip_is T (by kernel_rfl) h).ql hd.ql).cat (h2.ql (he.ql.skip h4)))))
theorem callL_rt (p : Nat) : ∀ (f : Nat) (acc : List Pb) (n : Nat), QL S p acc n → Ret (callL S F rec d f acc n) fun l m => QL S p l m := by
 intro f
 induction f with
 | zero => intro acc n _; exact ret_dry
 | succ f ih =>
  intro acc n h
  unfold callL
  exact ret_if (fun _ => ret_bind (atomO_rt T hrec n) (fun b m hb => ih _ _ (h.cat hb.ql))) (fun _ => ret_ok h)
theorem callO_rt (n : Nat) : Ret (callO S F rec d n) fun b m => QB S n b m := by
 unfold callO
 refine ret_bind (atomO_rt T hrec n) (fun b m hb => ?_)
 exact ret_bind (callL_rt T hrec n F [b] m hb.ql) (fun l m2 hl => ret_ok (oneOr_ks (by decide) hl))
/-- Signs and what stands between them. -/
def QI (S : Src) (n : Nat) (l : List Nat × List Pb) (m : Nat) : Prop := l.2.length = l.1.length + 1 ∧ ChainP n m l.2 ∧ (∀ x ∈ l.1, n ≤ x ∧ x < m) ∧ Cov S n m fun x => cnN l.1 x + cntL x l.2
theorem infixL_rt (p : Nat) : ∀ (f : Nat) (sg : List Nat) (acc : List Pb) (n : Nat), QI S p (sg, acc) n → Ret (infixL S F rec d f sg acc n) fun l m => QI S p l m := by
 intro f
 induction f with
 | zero => intro sg acc n _; exact ret_dry
 | succ f ih =>
  intro sg acc n h
  unfold infixL
  refine ret_if (fun _ => ?_) (fun _ => ret_ok h)
  refine ret_bind (take_nm (by decide) n) (fun x m hx => ret_bind (callO_rt T hrec m) (fun b m2 hb => ih _ _ _ ?_))
  obtain ⟨h1, h2, h3, h4⟩ := h
  have i1 := h4.le; have i2 := hx.cov.le; have i3 := hb.cov.le
  have h1' : acc.length = sg.length + 1 := h1
  have h3' : ∀ x ∈ sg, p ≤ x ∧ x < n := h3
  refine ⟨by simp only [List.length_append, List.length_singleton]; omega, (h2.up (by omega)).cat hb.ql.ch, fun y hy => ?_, ((h4.add hx.cov).add hb.cov).ext fun y => ?_⟩
  ·rcases List.mem_append.1 hy with hy | hy
   ·have := h3' y hy; omega
   ·have := hx.inn y hy; omega
  ·simp only [cnN_append, cntL_append, cntL]; omega
theorem infixO_rt (n : Nat) : Ret (infixO S F rec d n) fun b m => QB S n b m := by
 unfold infixO
 refine ret_bind (callO_rt T hrec n) (fun b m hb => ?_)
 refine ret_bind (infixL_rt T hrec n F [] [b] m ⟨rfl, hb.ql.ch, fun x hx => (by cases hx), hb.ql.cov.ext fun x => by simp [cnN_nil]⟩) (fun l m2 hl => ret_ok ?_)
 obtain ⟨sg, ks⟩ := l
 obtain ⟨h1, h2, h3, h4⟩ := hl
 have h1 : ks.length = sg.length + 1 := h1
 have h2 : ChainP n m2 ks := h2
 have h4 : Cov S n m2 fun x => cnN sg x + cntL x ks := h4
 show QB S n (oneOr ks 37 n m2 sg) m2
 unfold oneOr
 split
 ·next b =>
  have h1 : 1 = sg.length + 1 := h1
  have : sg = [] := List.length_eq_zero_iff.1 (by omega)
  subst this
  exact QL.one ⟨h2, h4.ext fun x => by simp [cnN_nil]⟩
 ·exact node_mix (by decide) h3 h2 h4 (fun _ => rfl)
theorem clauseO_rt {k : Int} (hk : 0 < k) {fr n : Nat} (hs : Skip S fr n) : Ret (clauseO S rec d k fr n) fun b m => QB S fr b m := by
 unfold clauseO
 refine ret_bind (hrec .pat n trivial) (fun p m hp => ?_)
 refine ret_bind (need_rt T (by kernel_rfl) m) (fun _ m2 h2 => ?_)
 exact ret_bind (hrec .exp m2 trivial) (fun e m3 he => ret_ok (node_ks hk ((hs.ql hp.ql).cat (h2.ql he.ql))))
theorem armO_rt (n : Nat) : Ret (armO S rec d n) fun b m => QB S n b m := clauseO_rt T hrec (by decide) (Skip.nil n)
theorem expO_rt (n : Nat) : Ret (expO S F rec d n) fun b m => QB S n b m := by
 unfold expO
 refine ret_if (fun h => ?_) (fun _ => ret_if (fun h => ?_) (fun _ => ret_if (fun h => ?_) (fun _ => infixO_rt T hrec n)))
 ·refine ret_bind (hrec .exp (n + 1) trivial) (fun a m ha => ?_)
  refine ret_bind (need_rt T (by kernel_rfl) m) (fun _ m2 h2 => ?_)
  refine ret_bind (hrec .exp m2 trivial) (fun b m3 hb => ?_)
  refine ret_bind (need_rt T (by kernel_rfl) m3) (fun _ m4 h4 => ?_)
  exact ret_bind (hrec .exp m4 trivial) (fun c m5 hc => ret_ok (node_ks (by decide) (((skip_is T (by kernel_rfl) h).ql ha.ql).cat ((h2.ql hb.ql).cat (h4.ql hc.ql)))))
 ·refine ret_bind (hrec .exp (n + 1) trivial) (fun a m ha => ?_)
  refine ret_bind (need_rt T (by kernel_rfl) m) (fun _ m2 h2 => ?_)
  exact ret_bind (rowO_rt T F (by kernel_rfl) (armO_rt T hrec) m2) (fun l m3 hl => ret_ok (node_ks (by decide) (((skip_is T (by kernel_rfl) h).ql ha.ql).cat (h2.ql hl))))
 ·exact clauseO_rt T hrec (by decide) (skip_is T (by kernel_rfl) h)
omit hrec in
theorem varsL_rt (p : Nat) : ∀ (f n : Nat), Skip S p n → Ret (varsL S f n) fun _ m => Skip S p m := by
 intro f
 induction f with
 | zero => intro n _; exact ret_dry
 | succ f ih =>
  intro n h
  unfold varsL
  exact ret_if (fun hc => ret_bind (take_sk (n + 1)) (fun _ m hm => ih _ ((h.cat (skip_is T (by kernel_rfl) hc)).cat hm))) (fun _ => ret_ok h)
omit hrec in
theorem typeNameO_rt (n : Nat) : Ret (typeNameO S F n) fun x m => QN S n [x] m := by
 unfold typeNameO
 refine ret_if (fun h => ?_) (fun _ => ret_if (fun h => ?_) (fun _ => take_nm (by decide) n))
 ·exact (take_nm (by decide) (n + 1)).mono fun x m hx => (skip_kd h rfl).qn hx
 ·refine ret_bind (take_sk (n + 1)) (fun _ m hm => ?_)
  refine ret_bind (varsL_rt T (n + 1) F m hm) (fun _ m2 h2 => ?_)
  refine ret_bind (need_rt T (by kernel_rfl) m2) (fun _ m3 h3 => ?_)
  exact (take_nm (by decide) m3).mono fun x m hx => ((skip_is T (by kernel_rfl) h).cat (h2.cat h3)).qn hx
theorem conO_rt (n : Nat) : Ret (conO S rec d n) fun b m => QB S n b m := by
 unfold conO
 refine ret_bind (take_nm (by decide) n) (fun x m hx => ret_if (fun h => ?_) (fun _ => ret_ok (node_ns (by decide) hx)))
 exact ret_bind (hrec .ty (m + 1) trivial) (fun b m2 hb => ret_ok (node_nk (by decide) hx ((skip_is T (by kernel_rfl) h).ql hb.ql)))
theorem dbindO_rt (n : Nat) : Ret (dbindO S F rec d n) fun b m => QB S n b m := by
 unfold dbindO
 refine ret_bind (typeNameO_rt T n) (fun x m hx => ?_)
 refine ret_bind (need_rt T (by kernel_rfl) m) (fun _ m2 h2 => ?_)
 exact ret_bind (rowO_rt T F (by kernel_rfl) (conO_rt T hrec) m2) (fun l m3 hl => ret_ok (node_nk (by decide) hx (h2.ql hl)))
theorem datatypesO_rt {fr n : Nat} (hs : Skip S fr n) : Ret (datatypesO S F rec d fr n) fun b m => QB S fr b m := by
 unfold datatypesO
 exact ret_bind (rowO_rt T F (by kernel_rfl) (dbindO_rt T hrec) n) (fun l m hl => ret_ok (node_ks (by decide) (hs.ql hl)))
theorem specO_rt (n : Nat) : Ret (specO S F rec d n) fun b m => QB S n b m := by
 unfold specO
 refine ret_if (fun h => ?_) (fun _ => ret_if (fun h => ?_) (fun _ => ret_if (fun h => ?_) (fun _ => ret_if (fun h => ?_) (fun _ => ?_))))
 ·refine ret_bind (value_rt T (n + 1)) (fun x m hx => ?_)
  refine ret_bind (need_rt T (by kernel_rfl) m) (fun _ m2 h2 => ?_)
  exact ret_bind (hrec .ty m2 trivial) (fun b m3 hb => ret_ok (node_nk (by decide) ((skip_is T (by kernel_rfl) h).qn hx) (h2.ql hb.ql)))
 ·refine ret_bind (typeNameO_rt T (n + 1)) (fun x m hx => ret_if (fun h2 => ?_) (fun _ => ret_ok (node_ns (by decide) ((skip_is T (by kernel_rfl) h).qn hx))))
  exact ret_bind (hrec .ty (m + 1) trivial) (fun b m3 hb => ret_ok (node_nk (by decide) ((skip_is T (by kernel_rfl) h).qn hx) ((skip_is T (by kernel_rfl) h2).ql hb.ql)))
 ·exact datatypesO_rt T hrec (skip_is T (by kernel_rfl) h)
 ·refine ret_bind (take_nm (by decide) (n + 1)) (fun x m hx => ?_)
  refine ret_bind (need_rt T (by kernel_rfl) m) (fun _ m2 h2 => ?_)
  exact ret_bind (hrec .sig m2 trivial) (fun b m3 hb => ret_ok (node_nk (by decide) ((skip_is T (by kernel_rfl) h).qn hx) (h2.ql hb.ql)))
 ·refine ret_bind (need_rt T (by kernel_rfl) n) (fun _ m2 h2 => ?_)
  exact ret_bind (hrec .sig m2 trivial) (fun b m3 hb => ret_ok (node_ks (by decide) (h2.ql hb.ql)))
theorem specsL_rt (p : Nat) : ∀ (f : Nat) (acc : List Pb) (n : Nat), QL S p acc n → Ret (specsL S F rec d f acc n) fun l m => QL S p l m := by
 intro f
 induction f with
 | zero => intro acc n _; exact ret_dry
 | succ f ih =>
  intro acc n h
  unfold specsL
  refine ret_if (fun hc => ret_ok (h.skip (skip_is T (by kernel_rfl) hc))) (fun _ => ret_if (fun hc => ih _ _ (h.skip (skip_is T (by kernel_rfl) hc))) (fun _ => ?_))
  exact ret_bind (specO_rt T hrec n) (fun b m hb => ih _ _ (h.cat hb.ql))
theorem bareSigO_rt (n : Nat) : Ret (bareSigO S F rec d n) fun b m => QB S n b m := by
 unfold bareSigO
 refine ret_if (fun h => ?_) (fun _ => ret_bind (take_nm (by decide) n) (fun x m hx => ret_ok (node_ns (by decide) hx)))
 exact ret_bind (specsL_rt T hrec (n + 1) F [] (n + 1) (QL.nil _)) (fun l m hl => ret_ok (node_ks (by decide) ((skip_is T (by kernel_rfl) h).ql hl)))
theorem whereL_rt (p : Nat) : ∀ (f : Nat) (b : Pb) (n : Nat), QB S p b n → Ret (whereL S rec d p f b n) fun b m => QB S p b m := by
 intro f
 induction f with
 | zero => intro b n _; exact ret_dry
 | succ f ih =>
  intro b n h
  unfold whereL
  refine ret_if (fun hc => ?_) (fun _ => ret_ok h)
  refine ret_bind (need_rt T (by kernel_rfl) (n + 1)) (fun _ m h1 => ?_)
  refine ret_bind (typePath_rt T m) (fun p m2 hp => ?_)
  refine ret_bind (need_rt T (by kernel_rfl) m2) (fun _ m3 h3 => ?_)
  exact ret_bind (hrec .ty m3 trivial) (fun c m4 hb => ih _ _ (node_knk (l := [b]) (r := [c]) (by decide) (h.ql.skip ((skip_is T (by kernel_rfl) hc).cat h1)) hp (h3.ql hb.ql)))
theorem sigO_rt (n : Nat) : Ret (sigO S F rec d n) fun b m => QB S n b m := by
 unfold sigO
 exact ret_bind (bareSigO_rt T hrec n) (fun b m hb => whereL_rt T hrec n F b m hb)
theorem bareStrO_rt (n : Nat) : Ret (bareStrO S F rec d n) fun b m => QB S n b m := by
 unfold bareStrO
 refine ret_if (fun h => ?_) (fun _ => ret_if (fun h => ?_) (fun _ => ret_bind (path_rt T (by decide) n) (fun p m hp => ret_ok (node_ns (by decide) hp))))
 ·refine ret_bind (decsO_rt T hrec 1 (n + 1)) (fun l m hl => ?_)
  exact ret_bind (need_rt T (by kernel_rfl) m) (fun _ m2 h2 => ret_ok (node_ks (by decide) ((skip_is T (by kernel_rfl) h).ql (hl.skip h2))))
 ·simp only [Bool.and_eq_true, beq_iff_eq] at h
  have h1 : QN S n [n] (n + 1) := ⟨fun x hx => by have : x = n := (by simpa using hx); omega, name_one (by unfold Src.nm; rw [h.1]; rfl)⟩
  refine ret_bind (hrec .str (n + 2) trivial) (fun b m hb => ?_)
  exact ret_bind (need_rt T (by kernel_rfl) m) (fun _ m2 h2 => ret_ok (node_nk (by decide) h1 ((skip_is T (by kernel_rfl) h.2).ql (hb.ql.skip h2))))
theorem sealL_rt (p : Nat) : ∀ (f : Nat) (b : Pb) (n : Nat), QB S p b n → Ret (sealL S rec d p f b n) fun b m => QB S p b m := by
 intro f
 induction f with
 | zero => intro b n _; exact ret_dry
 | succ f ih =>
  intro b n h
  unfold sealL
  refine ret_if (fun _ => ret_ok h) (fun hc => ?_)
  exact ret_bind (hrec .sig (n + 1) trivial) (fun s m hs => ih _ _ (QB.marked (node_ks (by decide) (h.ql.cat ((colon_rt T n hc).ql hs.ql)))))
theorem strO_rt (n : Nat) : Ret (strO S F rec d n) fun b m => QB S n b m := by
 unfold strO
 exact ret_bind (bareStrO_rt T hrec n) (fun b m hb => sealL_rt T hrec n F b m hb)
theorem bodyO_rt (n : Nat) : Ret (bodyO S rec d n) fun l m => QL S n l.2 m := by
 unfold bodyO
 refine ret_bind (P := fun l m => QL S n l m) (ret_if (fun _ => ret_ok (QL.nil n)) (fun hc => ?_)) (fun l m hl => ?_)
 ·exact ret_bind (hrec .sig (n + 1) trivial) (fun s m hs => ret_ok ((colon_rt T n hc).ql hs.ql))
 ·refine ret_bind (need_rt T (by kernel_rfl) m) (fun _ m2 h2 => ?_)
  exact ret_bind (hrec .str m2 trivial) (fun b m3 hb => ret_ok (hl.cat (h2.ql hb.ql)))
theorem structureO_rt {fr n : Nat} (hs : Skip S fr n) : Ret (structureO S rec d fr n) fun b m => QB S fr b m := by
 unfold structureO
 refine ret_bind (take_nm (by decide) n) (fun x m hx => ?_)
 exact ret_bind (bodyO_rt T hrec m) (fun l m2 hl => ret_ok (QB.marked (node_nk (by decide) (hs.qn hx) hl)))
theorem functorO_rt {fr n : Nat} (hs : Skip S fr n) : Ret (functorO S rec d fr n) fun b m => QB S fr b m := by
 unfold functorO
 refine ret_bind (take_nm (by decide) n) (fun x m hx => ?_)
 refine ret_bind (need_rt T (by kernel_rfl) m) (fun _ m2 h2 => ?_)
 refine ret_bind (take_nm (by decide) m2) (fun y m3 hy => ?_)
 refine ret_bind (need_rt T (by kernel_rfl) m3) (fun _ m4 h4 => ?_)
 refine ret_bind (hrec .sig m4 trivial) (fun g m5 hg => ?_)
 refine ret_bind (need_rt T (by kernel_rfl) m5) (fun _ m6 h6 => ?_)
 exact ret_bind (bodyO_rt T hrec m6) (fun l m7 hl => ret_ok (QB.marked (node_nk (ns := [x] ++ [y]) (by decide) (hs.qn (hx.cat (h2.qn hy))) (h4.ql (hg.ql.cat (h6.ql hl))))))
theorem funL_rt (p : Nat) : ∀ (f : Nat) (acc : List Pb) (n : Nat), QL S p acc n → Ret (funL S F rec d f acc n) fun l m => QL S p l m := by
 intro f
 induction f with
 | zero => intro acc n _; exact ret_dry
 | succ f ih =>
  intro acc n h
  unfold funL
  exact ret_if (fun _ => ret_bind (atomicPatO_rt T hrec n) (fun b m hb => ih _ _ (h.cat hb.ql))) (fun _ => ret_ok h)
theorem functionO_rt (n : Nat) : Ret (functionO S F rec d n) fun b m => QB S n b m := by
 unfold functionO
 refine ret_bind (value_rt T n) (fun x m hx => ?_)
 refine ret_bind (atomicPatO_rt T hrec m) (fun b m2 hb => ?_)
 refine ret_bind (funL_rt T hrec m F [b] m2 hb.ql) (fun l m3 hl => ?_)
 refine ret_bind (need_rt T (by kernel_rfl) m3) (fun _ m4 h4 => ?_)
 exact ret_bind (hrec .exp m4 trivial) (fun e m5 he => ret_ok (node_nk (by decide) hx (hl.cat (h4.ql he.ql))))
theorem localO_rt {fr n : Nat} (hs : Skip S fr n) (a : Nat) : Ret (localO S F rec d fr a n) fun b m => QB S fr b m := by
 unfold localO
 refine ret_bind (withinO_rt T hrec a n) (fun x m hx => ?_)
 refine ret_bind (need_rt T (by kernel_rfl) m) (fun _ m2 h2 => ?_)
 refine ret_bind (withinO_rt T hrec a m2) (fun y m3 hy => ?_)
 exact ret_bind (need_rt T (by kernel_rfl) m3) (fun _ m4 h4 => ret_ok (node_ks (by decide) ((hs.ql hx.ql).cat (h2.ql (hy.ql.skip h4)))))
theorem decB_rt (a n : Nat) (hl : declares S a n = true) : Ret (decB S F rec d a n) fun b m => QB S n b m := by
 unfold decB
 refine ret_if (fun h => ?_) (fun q1 => ret_if (fun h => ?_) (fun q2 => ret_if (fun h => ?_) (fun q3 => ret_if (fun h => ?_) (fun q4 => ret_if (fun h => ?_) (fun q5 => ret_if (fun h => ?_) (fun q6 => ret_if (fun h => ?_) (fun q7 => ret_if (fun h => ?_) (fun q8 => ?_))))))))
 ·refine ret_bind (hrec .pat (n + 1) trivial) (fun p m hp => ?_)
  refine ret_bind (need_rt T (by kernel_rfl) m) (fun _ m2 h2 => ?_)
  exact ret_bind (hrec .exp m2 trivial) (fun e m3 he => ret_ok (node_ks (by decide) (((skip_is T (by kernel_rfl) h).ql hp.ql).cat (h2.ql he.ql))))
 ·exact ret_bind (rowO_rt T F (by kernel_rfl) (functionO_rt T hrec) (n + 1)) (fun l m hl => ret_ok (node_ks (by decide) ((skip_is T (by kernel_rfl) h).ql hl)))
 ·refine ret_bind (typeNameO_rt T (n + 1)) (fun x m hx => ?_)
  refine ret_bind (need_rt T (by kernel_rfl) m) (fun _ m2 h2 => ?_)
  exact ret_bind (hrec .ty m2 trivial) (fun b m3 hb => ret_ok (node_nk (by decide) ((skip_is T (by kernel_rfl) h).qn hx) (h2.ql hb.ql)))
 ·exact datatypesO_rt T hrec (skip_is T (by kernel_rfl) h)
 ·exact structureO_rt T hrec (skip_is T (by kernel_rfl) h)
 ·refine ret_bind (take_nm (by decide) (n + 1)) (fun x m hx => ?_)
  refine ret_bind (need_rt T (by kernel_rfl) m) (fun _ m2 h2 => ?_)
  exact ret_bind (hrec .sig m2 trivial) (fun b m3 hb => ret_ok (node_nk (by decide) ((skip_is T (by kernel_rfl) h).qn hx) (h2.ql hb.ql)))
 ·exact functorO_rt T hrec (skip_is T (by kernel_rfl) h)
 ·exact ret_bind (path_rt T (by decide) (n + 1)) (fun p m hp => ret_ok (node_ns (by decide) ((skip_is T (by kernel_rfl) h).qn hp)))
 ·refine localO_rt T hrec (skip_is T (t := [108, 111, 99, 97, 108]) (by kernel_rfl) ?_) a
  unfold declares at hl
  simp only [q1, q2, q3, q4, q5, q6, q7, q8, Bool.or_self, Bool.false_or, cond_false] at hl
  exact hl
theorem decO_rt (a n : Nat) : Ret (decO S F rec d a n) fun b m => QB S n b m := by
 unfold decO
 exact ret_if (fun h => decB_rt T hrec a n h) (fun _ => ret_form)
end

theorem parts_rt : ∀ (f : Nat) (nt : Nt) (d n : Nat), S.may nt n → Ret (parts S f nt d n) fun b m => QB S n b m := by
 intro f
 induction f with
 | zero => intro nt d n _; exact ret_dry
 | succ f ih =>
  intro nt d n hm
  unfold parts
  refine ret_if (fun _ => ret_deep) (fun _ => ?_)
  have hrec : ∀ nt k, S.may nt k → Ret (parts S f nt (d + 1) k) fun b m => QB S k b m := fun nt k hk => ih nt (d + 1) k hk
  cases nt with
  | exp => exact expO_rt T hrec n
  | pat => exact patO_rt T hrec n
  | ty => exact tyO_rt T hrec n
  | sig => exact sigO_rt T hrec n
  | str => exact strO_rt T hrec n
  | dec a => exact decO_rt T hrec a n
theorem fileO_rt (F : Nat) : Ret (fileO S F 0) fun b m => QB S 0 b m := by
 unfold fileO
 exact ret_bind (decsO_rt T (F := F) (rec := parts S F) (d := 0) (fun nt k hk => parts_rt T F nt 0 k hk) 2 0) (fun l m hl => ret_ok (node_ks (by decide) hl))
end
end Go.Proofs.YtkjgkchdkeggoaaGreatDoor

namespace Go.Proofs.YtkjgkchdkeggoaaGreatDoor
open Go.RowKit
set_option maxRecDepth 20000
set_option linter.unusedVariables false
set_option linter.unusedSimpArgs false

mutual
/-- A branch, all its parts and all their names. -/
def Pb.wt : Pb → Nat
 | .mk _ _ _ _ ns ks => 1 + ns.length + wtL ks
def wtL : List Pb → Nat
 | [] => 0
 | b :: r => b.wt + wtL r
end
theorem wtL_append (a b : List Pb) : wtL (a ++ b) = wtL a + wtL b := by
 induction a with
 | nil => simp [wtL]
 | cons y r ih => simp [wtL, ih]; omega
theorem wt_node (k : Int) (f t : Nat) (ns : List Nat) (l : List Pb) : (node k f t ns l).wt = 1 + ns.length + wtL l := by
 simp [node, Pb.wt]
theorem wt_marked (m : Int) (b : Pb) : (marked m b).wt = b.wt := by
 cases b; simp [marked, Pb.wt]
theorem oneOr_wt {l : List Pb} {k : Int} {f t : Nat} {ns : List Nat} {n m : Nat} (h : wtL l + l.length + ns.length + 3 * n ≤ 3 * m) (h1 : 1 ≤ l.length) : (oneOr l k f t ns).wt + 1 + 3 * n ≤ 3 * m := by
 unfold oneOr
 split
 ·simp [wtL] at h; omega
 ·next hne =>
  rw [wt_node]
  match l, hne, h1 with
  | a :: b :: r, _, _ => simp only [List.length_cons] at h ⊢; omega
  | [a], hne, _ => exact absurd rfl (hne a)
section
variable {S : Src}
theorem need_wt {t : List UInt8} (n : Nat) : Ret (S.need t n) fun _ m => m = n + 1 := by
 unfold Src.need
 exact ret_if (fun h => ret_ok rfl) (fun _ => ret_form)
theorem take_wt {ks : List Int} (n : Nat) : Ret (S.take ks n) fun x m => m = n + 1 := by
 unfold Src.take
 exact ret_if (fun h => ret_ok rfl) (fun _ => ret_form)
theorem pathL_wt {ks : List Int} (p : Nat) : ∀ (f : Nat) (acc : List Nat) (n : Nat), 1 ≤ acc.length → acc.length + p ≤ n → Ret (S.pathL ks f acc n) fun l m => 1 ≤ l.length ∧ l.length + p ≤ m := by
 intro f
 induction f with
 | zero => intro acc n _ _; exact ret_dry
 | succ f ih =>
  intro acc n h0 h
  unfold Src.pathL
  refine ret_if (fun hc => ?_) (fun _ => ret_ok ⟨h0, h⟩)
  exact ret_bind (take_wt (n + 1)) (fun x m hx => ih _ _ (by simp) (by simp; omega))
theorem path_wt {ks : List Int} (n : Nat) : Ret (S.path ks n) fun l m => 1 ≤ l.length ∧ l.length + n ≤ m := by
 unfold Src.path
 exact ret_bind (take_wt n) (fun x m hx => pathL_wt n _ _ _ (by simp) (by simp; omega))
theorem typePath_wt (n : Nat) : Ret (S.typePath n) fun l m => 1 ≤ l.length ∧ l.length + n ≤ m := by
 unfold Src.typePath
 exact ret_bind (path_wt n) (fun p m hp => ret_if (fun _ => ret_ok hp) (fun _ => ret_form))
theorem value_wt (n : Nat) : Ret (S.value n) fun x m => n + 1 ≤ m := by
 unfold Src.value
 refine ret_if (fun h => ?_) (fun _ => (take_wt n).mono fun x m hx => by omega)
 exact (take_wt (n + 1)).mono fun x m hx => by omega
theorem rowL_wt {mark : List UInt8} {read : Nat → Out Pb} (hr : ∀ k, Ret (read k) fun b m => b.wt + 1 + 3 * k ≤ 3 * m) (p : Nat) : ∀ (f : Nat) (acc : List Pb) (n : Nat), 1 ≤ acc.length → wtL acc + acc.length + 3 * p ≤ 3 * n → Ret (rowL S mark read f acc n) fun l m => 1 ≤ l.length ∧ wtL l + l.length + 3 * p ≤ 3 * m := by
 intro f
 induction f with
 | zero => intro acc n _ _; exact ret_dry
 | succ f ih =>
  intro acc n h0 h
  unfold rowL
  refine ret_if (fun hc => ?_) (fun _ => ret_ok ⟨h0, h⟩)
  exact ret_bind (hr (n + 1)) (fun b m hb => ih _ _ (by simp) (by simp only [wtL_append, wtL, List.length_append, List.length_singleton]; omega))
theorem rowO_wt (F : Nat) {mark : List UInt8} {read : Nat → Out Pb} (hr : ∀ k, Ret (read k) fun b m => b.wt + 1 + 3 * k ≤ 3 * m) (n : Nat) : Ret (rowO S F mark read n) fun l m => 1 ≤ l.length ∧ wtL l + l.length + 3 * n ≤ 3 * m := by
 unfold rowO
 exact ret_bind (hr n) (fun b m hb => rowL_wt hr n F [b] m (by simp) (by simp [wtL]; omega))
section
variable {F : Nat} {rec : Nt → Nat → Nat → Out Pb} {d : Nat} (hrec : ∀ nt k, S.may nt k → Ret (rec nt d k) fun b m => b.wt + 1 + 3 * k ≤ 3 * m)
include hrec
theorem atomicTyO_wt (n : Nat) : Ret (atomicTyO S F rec d n) fun b m => b.wt + 1 + 3 * n ≤ 3 * m := by
 unfold atomicTyO
 refine ret_if (fun h => ret_ok (by simp [wt_node, wtL]; omega)) (fun _ => ret_if (fun h => ?_) (fun _ => ?_))
 ·refine ret_bind (rowO_wt F (fun k => hrec .ty k trivial) (n + 1)) (fun l m hl => ?_)
  refine ret_bind (need_wt m) (fun _ m2 h2 => ?_)
  unfold pick1
  split
  ·exact ret_ok (by simp only [wtL, List.length_singleton] at hl; omega)
  ·exact ret_bind (typePath_wt m2) (fun p m3 hp => ret_ok (by rw [wt_node]; omega))
 ·exact ret_bind (typePath_wt n) (fun p m3 hp => ret_ok (by simp only [wt_node, wtL]; omega))
theorem appliedL_wt (n : Nat) : ∀ (f : Nat) (b : Pb) (m : Nat), b.wt + 1 + 3 * n ≤ 3 * m → Ret (appliedL S n f b m) fun b m => b.wt + 1 + 3 * n ≤ 3 * m := by
 have _ := hrec
 intro f
 induction f with
 | zero => intro b m _; exact ret_dry
 | succ f ih =>
  intro b m h
  unfold appliedL
  exact ret_if (fun _ => ret_bind (typePath_wt m) (fun p m1 hp => ih _ _ (by simp only [wt_node, wtL]; omega))) (fun _ => ret_ok h)
theorem appliedO_wt (n : Nat) : Ret (appliedO S F rec d n) fun b m => b.wt + 1 + 3 * n ≤ 3 * m := by
 unfold appliedO
 exact ret_bind (atomicTyO_wt hrec n) (fun b m hb => appliedL_wt hrec n F b m hb)
theorem productO_wt (n : Nat) : Ret (productO S F rec d n) fun b m => b.wt + 1 + 3 * n ≤ 3 * m := by
 unfold productO
 exact ret_bind (rowO_wt F (appliedO_wt hrec) n) (fun l m hl => ret_ok (oneOr_wt (by simpa using hl.2) hl.1))
theorem tyO_wt (n : Nat) : Ret (tyO S F rec d n) fun b m => b.wt + 1 + 3 * n ≤ 3 * m := by
 unfold tyO
 refine ret_bind (productO_wt hrec n) (fun b m hb => ret_if (fun h => ?_) (fun _ => ret_ok hb))
 exact ret_bind (hrec .ty (m + 1) trivial) (fun c m2 hc => ret_ok (by simp only [wt_node, wtL, List.length_nil]; omega))
omit hrec in
theorem tupleO_wt {fr n : Nat} (hs : fr + 1 ≤ n) {member : Nat → Out Pb} (hm : ∀ k, Ret (member k) fun b m => b.wt + 1 + 3 * k ≤ 3 * m) : Ret (tupleO S F fr member n) fun b m => b.wt + 1 + 3 * fr ≤ 3 * m := by
 unfold tupleO
 refine ret_if (fun h => ret_ok (by simp only [wt_node, wtL, List.length_nil]; omega)) (fun _ => ?_)
 refine ret_bind (rowO_wt F hm n) (fun l m hl => ?_)
 exact ret_bind (need_wt m) (fun _ m2 h2 => ret_ok (oneOr_wt (by simp only [List.length_nil]; omega) hl.1))
omit hrec in
theorem plainO_wt {named : Int} {member : Nat → Out Pb} (hm : ∀ k, Ret (member k) fun b m => b.wt + 1 + 3 * k ≤ 3 * m) (n : Nat) : Ret (plainO S F named member n) fun b m => b.wt + 1 + 3 * n ≤ 3 * m := by
 unfold plainO
 refine ret_if (fun h => ret_ok (by simp only [wt_node, wtL, List.length_nil]; omega)) (fun _ => ret_if (fun h => ret_ok (by simp only [wt_node, wtL, List.length_nil]; omega)) (fun _ => ret_if (fun h => ?_) (fun _ => ?_)))
 ·exact tupleO_wt (by omega) hm
 ·exact ret_bind (value_wt n) (fun x m hx => ret_ok (by simp only [wt_node, wtL, List.length_singleton]; omega))
theorem atomicPatO_wt (n : Nat) : Ret (atomicPatO S F rec d n) fun b m => b.wt + 1 + 3 * n ≤ 3 * m := by
 unfold atomicPatO
 refine ret_if (fun h => ret_ok (by simp only [wt_node, wtL, List.length_nil]; omega)) (fun _ => ret_if (fun _ => ?_) (fun _ => plainO_wt (fun k => hrec .pat k trivial) n))
 exact ret_bind (path_wt n) (fun p m hp => ret_ok (by simp only [wt_node, wtL]; omega))
theorem patO_wt (n : Nat) : Ret (patO S F rec d n) fun b m => b.wt + 1 + 3 * n ≤ 3 * m := by
 unfold patO
 refine ret_if (fun h => ?_) (fun _ => ret_if (fun _ => ?_) (fun _ => atomicPatO_wt hrec n))
 ·exact ret_bind (hrec .pat (n + 2) trivial) (fun b m hb => ret_ok (by simp only [wt_node, wtL, List.length_singleton]; omega))
 ·refine ret_bind (path_wt n) (fun p m hp => ret_if (fun _ => ?_) (fun _ => ret_ok (by simp only [wt_node, wtL]; omega)))
  exact ret_bind (atomicPatO_wt hrec m) (fun b m2 hb => ret_ok (by simp only [wt_node, wtL]; omega))
theorem decsL_wt (a p : Nat) : ∀ (f : Nat) (acc : List Pb) (n : Nat), wtL acc + acc.length + 3 * p ≤ 3 * n → Ret (decsL S rec d a f acc n) fun l m => wtL l + l.length + 3 * p ≤ 3 * m := by
 intro f
 induction f with
 | zero => intro acc n _; exact ret_dry
 | succ f ih =>
  intro acc n h
  unfold decsL
  refine ret_if (fun hc => ih _ _ (by omega)) (fun _ => ret_if (fun hd => ?_) (fun _ => ret_ok h))
  exact ret_bind (hrec (.dec a) n hd) (fun b m hb => ih _ _ (by simp only [wtL_append, wtL, List.length_append, List.length_singleton]; omega))
theorem decsO_wt (a n : Nat) : Ret (decsO S F rec d a n) fun l m => wtL l + l.length + 3 * n ≤ 3 * m := decsL_wt hrec a n F [] n (by simp [wtL])
theorem withinO_wt (a n : Nat) : Ret (withinO S F rec d a n) fun b m => b.wt + 3 * n ≤ 3 * m + 1 := by
 unfold withinO
 exact ret_bind (decsO_wt hrec a n) (fun l m hl => ret_ok (by simp only [wt_node, List.length_nil]; omega))
theorem atomO_wt (n : Nat) : Ret (atomO S F rec d n) fun b m => b.wt + 1 + 3 * n ≤ 3 * m := by
 unfold atomO
 refine ret_if (fun _ => ?_) (fun _ => ret_if (fun h => ?_) (fun _ => plainO_wt (fun k => hrec .exp k trivial) n))
 ·exact ret_bind (path_wt n) (fun p m hp => ret_if (fun _ => ret_ok (by simp only [wt_node, wtL]; omega)) (fun _ => ret_ok (by simp only [wt_node, wtL]; omega)))
 ·refine ret_bind (withinO_wt hrec 0 (n + 1)) (fun ds m hd => ?_)
  refine ret_bind (need_wt m) (fun _ m2 h2 => ?_)
  refine ret_bind (hrec .exp m2 trivial) (fun e m3 he => ?_)
  exact ret_bind (need_wt m3) (fun _ m4 h4 => ret_ok (by simp only [wt_node, wtL, List.length_nil]; omega))
theorem callL_wt (p : Nat) : ∀ (f : Nat) (acc : List Pb) (n : Nat), 1 ≤ acc.length → wtL acc + acc.length + 3 * p ≤ 3 * n → Ret (callL S F rec d f acc n) fun l m => 1 ≤ l.length ∧ wtL l + l.length + 3 * p ≤ 3 * m := by
 intro f
 induction f with
 | zero => intro acc n _ _; exact ret_dry
 | succ f ih =>
  intro acc n h0 h
  unfold callL
  exact ret_if (fun _ => ret_bind (atomO_wt hrec n) (fun b m hb => ih _ _ (by simp) (by simp only [wtL_append, wtL, List.length_append, List.length_singleton]; omega))) (fun _ => ret_ok ⟨h0, h⟩)
theorem callO_wt (n : Nat) : Ret (callO S F rec d n) fun b m => b.wt + 1 + 3 * n ≤ 3 * m := by
 unfold callO
 refine ret_bind (atomO_wt hrec n) (fun b m hb => ?_)
 exact ret_bind (callL_wt hrec n F [b] m (by simp) (by simp [wtL]; omega)) (fun l m2 hl => ret_ok (oneOr_wt (by simpa using hl.2) hl.1))
theorem infixL_wt (p : Nat) : ∀ (f : Nat) (sg : List Nat) (acc : List Pb) (n : Nat), 1 ≤ acc.length → wtL acc + acc.length + sg.length + 3 * p ≤ 3 * n → Ret (infixL S F rec d f sg acc n) fun l m => 1 ≤ l.2.length ∧ wtL l.2 + l.2.length + l.1.length + 3 * p ≤ 3 * m := by
 intro f
 induction f with
 | zero => intro sg acc n _ _; exact ret_dry
 | succ f ih =>
  intro sg acc n h0 h
  unfold infixL
  refine ret_if (fun _ => ?_) (fun _ => ret_ok ⟨h0, h⟩)
  exact ret_bind (take_wt n) (fun x m hx => ret_bind (callO_wt hrec m) (fun b m2 hb => ih _ _ _ (by simp) (by simp only [wtL_append, wtL, List.length_append, List.length_singleton]; omega)))
theorem infixO_wt (n : Nat) : Ret (infixO S F rec d n) fun b m => b.wt + 1 + 3 * n ≤ 3 * m := by
 unfold infixO
 refine ret_bind (callO_wt hrec n) (fun b m hb => ?_)
 exact ret_bind (infixL_wt hrec n F [] [b] m (by simp) (by simp [wtL]; omega)) (fun l m2 hl => ret_ok (oneOr_wt hl.2 hl.1))
theorem clauseO_wt {k : Int} {fr n : Nat} (hs : fr ≤ n) : Ret (clauseO S rec d k fr n) fun b m => b.wt + 1 + 3 * fr ≤ 3 * m := by
 unfold clauseO
 refine ret_bind (hrec .pat n trivial) (fun p m hp => ?_)
 refine ret_bind (need_wt m) (fun _ m2 h2 => ?_)
 exact ret_bind (hrec .exp m2 trivial) (fun e m3 he => ret_ok (by simp only [wt_node, wtL, List.length_nil]; omega))
theorem armO_wt (n : Nat) : Ret (armO S rec d n) fun b m => b.wt + 1 + 3 * n ≤ 3 * m := clauseO_wt hrec (Nat.le_refl _)
theorem expO_wt (n : Nat) : Ret (expO S F rec d n) fun b m => b.wt + 1 + 3 * n ≤ 3 * m := by
 unfold expO
 refine ret_if (fun h => ?_) (fun _ => ret_if (fun h => ?_) (fun _ => ret_if (fun h => ?_) (fun _ => infixO_wt hrec n)))
 ·refine ret_bind (hrec .exp (n + 1) trivial) (fun a m ha => ?_)
  refine ret_bind (need_wt m) (fun _ m2 h2 => ?_)
  refine ret_bind (hrec .exp m2 trivial) (fun b m3 hb => ?_)
  refine ret_bind (need_wt m3) (fun _ m4 h4 => ?_)
  exact ret_bind (hrec .exp m4 trivial) (fun c m5 hc => ret_ok (by simp only [wt_node, wtL, List.length_nil]; omega))
 ·refine ret_bind (hrec .exp (n + 1) trivial) (fun a m ha => ?_)
  refine ret_bind (need_wt m) (fun _ m2 h2 => ?_)
  exact ret_bind (rowO_wt F (armO_wt hrec) m2) (fun l m3 hl => ret_ok (by simp only [wt_node, wtL_append, wtL, List.length_nil]; omega))
 ·exact clauseO_wt hrec (by omega)
omit hrec in
theorem varsL_wt : ∀ (f n : Nat), Ret (varsL S f n) fun _ m => n ≤ m := by
 intro f
 induction f with
 | zero => intro n; exact ret_dry
 | succ f ih =>
  intro n
  unfold varsL
  exact ret_if (fun hc => ret_bind (take_wt (n + 1)) (fun _ m hm => (ih m).mono fun _ m2 h => by omega)) (fun _ => ret_ok (Nat.le_refl _))
omit hrec in
theorem typeNameO_wt (n : Nat) : Ret (typeNameO S F n) fun x m => n + 1 ≤ m := by
 unfold typeNameO
 refine ret_if (fun h => ?_) (fun _ => ret_if (fun h => ?_) (fun _ => (take_wt n).mono fun x m hx => by omega))
 ·exact (take_wt (n + 1)).mono fun x m hx => by omega
 ·refine ret_bind (take_wt (n + 1)) (fun _ m hm => ?_)
  refine ret_bind (varsL_wt F m) (fun _ m2 h2 => ?_)
  refine ret_bind (need_wt m2) (fun _ m3 h3 => ?_)
  exact (take_wt m3).mono fun x m hx => by omega
theorem conO_wt (n : Nat) : Ret (conO S rec d n) fun b m => b.wt + 1 + 3 * n ≤ 3 * m := by
 unfold conO
 refine ret_bind (take_wt n) (fun x m hx => ret_if (fun h => ?_) (fun _ => ret_ok (by simp only [wt_node, wtL, List.length_singleton]; omega)))
 exact ret_bind (hrec .ty (m + 1) trivial) (fun b m2 hb => ret_ok (by simp only [wt_node, wtL, List.length_singleton]; omega))
theorem dbindO_wt (n : Nat) : Ret (dbindO S F rec d n) fun b m => b.wt + 1 + 3 * n ≤ 3 * m := by
 unfold dbindO
 refine ret_bind (typeNameO_wt n) (fun x m hx => ?_)
 refine ret_bind (need_wt m) (fun _ m2 h2 => ?_)
 exact ret_bind (rowO_wt F (conO_wt hrec) m2) (fun l m3 hl => ret_ok (by simp only [wt_node, List.length_singleton]; omega))
theorem datatypesO_wt {fr n : Nat} (hs : fr + 1 ≤ n) : Ret (datatypesO S F rec d fr n) fun b m => b.wt + 1 + 3 * fr ≤ 3 * m := by
 unfold datatypesO
 exact ret_bind (rowO_wt F (dbindO_wt hrec) n) (fun l m hl => ret_ok (by simp only [wt_node, List.length_nil]; omega))
theorem specO_wt (n : Nat) : Ret (specO S F rec d n) fun b m => b.wt + 1 + 3 * n ≤ 3 * m := by
 unfold specO
 refine ret_if (fun h => ?_) (fun _ => ret_if (fun h => ?_) (fun _ => ret_if (fun h => ?_) (fun _ => ret_if (fun h => ?_) (fun _ => ?_))))
 ·refine ret_bind (value_wt (n + 1)) (fun x m hx => ?_)
  refine ret_bind (need_wt m) (fun _ m2 h2 => ?_)
  exact ret_bind (hrec .ty m2 trivial) (fun b m3 hb => ret_ok (by simp only [wt_node, wtL, List.length_singleton]; omega))
 ·refine ret_bind (typeNameO_wt (n + 1)) (fun x m hx => ret_if (fun h2 => ?_) (fun _ => ret_ok (by simp only [wt_node, wtL, List.length_singleton]; omega)))
  exact ret_bind (hrec .ty (m + 1) trivial) (fun b m3 hb => ret_ok (by simp only [wt_node, wtL, List.length_singleton]; omega))
 ·exact datatypesO_wt hrec (by omega)
 ·refine ret_bind (take_wt (n + 1)) (fun x m hx => ?_)
  refine ret_bind (need_wt m) (fun _ m2 h2 => ?_)
  exact ret_bind (hrec .sig m2 trivial) (fun b m3 hb => ret_ok (by simp only [wt_node, wtL, List.length_singleton]; omega))
 ·refine ret_bind (need_wt n) (fun _ m2 h2 => ?_)
  exact ret_bind (hrec .sig m2 trivial) (fun b m3 hb => ret_ok (by simp only [wt_node, wtL, List.length_nil]; omega))
theorem specsL_wt (p : Nat) : ∀ (f : Nat) (acc : List Pb) (n : Nat), wtL acc + acc.length + 3 * p ≤ 3 * n → Ret (specsL S F rec d f acc n) fun l m => wtL l + l.length + 3 * p ≤ 3 * m := by
 intro f
 induction f with
 | zero => intro acc n _; exact ret_dry
 | succ f ih =>
  intro acc n h
  unfold specsL
  refine ret_if (fun hc => ret_ok (by omega)) (fun _ => ret_if (fun hc => ih _ _ (by omega)) (fun _ => ?_))
  exact ret_bind (specO_wt hrec n) (fun b m hb => ih _ _ (by simp only [wtL_append, wtL, List.length_append, List.length_singleton]; omega))
theorem bareSigO_wt (n : Nat) : Ret (bareSigO S F rec d n) fun b m => b.wt + 1 + 3 * n ≤ 3 * m := by
 unfold bareSigO
 refine ret_if (fun h => ?_) (fun _ => ret_bind (take_wt n) (fun x m hx => ret_ok (by simp only [wt_node, wtL, List.length_singleton]; omega)))
 exact ret_bind (specsL_wt hrec (n + 1) F [] (n + 1) (by simp [wtL])) (fun l m hl => ret_ok (by simp only [wt_node, List.length_nil]; omega))
theorem whereL_wt (p : Nat) : ∀ (f : Nat) (b : Pb) (n : Nat), b.wt + 1 + 3 * p ≤ 3 * n → Ret (whereL S rec d p f b n) fun b m => b.wt + 1 + 3 * p ≤ 3 * m := by
 intro f
 induction f with
 | zero => intro b n _; exact ret_dry
 | succ f ih =>
  intro b n h
  unfold whereL
  refine ret_if (fun hc => ?_) (fun _ => ret_ok h)
  refine ret_bind (need_wt (n + 1)) (fun _ m h1 => ?_)
  refine ret_bind (typePath_wt m) (fun p m2 hp => ?_)
  refine ret_bind (need_wt m2) (fun _ m3 h3 => ?_)
  exact ret_bind (hrec .ty m3 trivial) (fun c m4 hb => ih _ _ (by simp only [wt_node, wtL]; omega))
theorem sigO_wt (n : Nat) : Ret (sigO S F rec d n) fun b m => b.wt + 1 + 3 * n ≤ 3 * m := by
 unfold sigO
 exact ret_bind (bareSigO_wt hrec n) (fun b m hb => whereL_wt hrec n F b m hb)
theorem bareStrO_wt (n : Nat) : Ret (bareStrO S F rec d n) fun b m => b.wt + 1 + 3 * n ≤ 3 * m := by
 unfold bareStrO
 refine ret_if (fun h => ?_) (fun _ => ret_if (fun h => ?_) (fun _ => ret_bind (path_wt n) (fun p m hp => ret_ok (by simp only [wt_node, wtL]; omega))))
 ·refine ret_bind (decsO_wt hrec 1 (n + 1)) (fun l m hl => ?_)
  exact ret_bind (need_wt m) (fun _ m2 h2 => ret_ok (by simp only [wt_node, List.length_nil]; omega))
 ·refine ret_bind (hrec .str (n + 2) trivial) (fun b m hb => ?_)
  exact ret_bind (need_wt m) (fun _ m2 h2 => ret_ok (by simp only [wt_node, wtL, List.length_singleton]; omega))
theorem sealL_wt (p : Nat) : ∀ (f : Nat) (b : Pb) (n : Nat), b.wt + 1 + 3 * p ≤ 3 * n → Ret (sealL S rec d p f b n) fun b m => b.wt + 1 + 3 * p ≤ 3 * m := by
 intro f
 induction f with
 | zero => intro b n _; exact ret_dry
 | succ f ih =>
  intro b n h
  unfold sealL
  refine ret_if (fun _ => ret_ok h) (fun hc => ?_)
  exact ret_bind (hrec .sig (n + 1) trivial) (fun s m hs => ih _ _ (by simp only [wt_marked, wt_node, wtL, List.length_nil]; omega))
theorem strO_wt (n : Nat) : Ret (strO S F rec d n) fun b m => b.wt + 1 + 3 * n ≤ 3 * m := by
 unfold strO
 exact ret_bind (bareStrO_wt hrec n) (fun b m hb => sealL_wt hrec n F b m hb)
theorem bodyO_wt (n : Nat) : Ret (bodyO S rec d n) fun l m => wtL l.2 + l.2.length + 3 * n ≤ 3 * m := by
 unfold bodyO
 refine ret_bind (P := fun l m => wtL l + l.length + 3 * n ≤ 3 * m) (ret_if (fun _ => ret_ok (by simp [wtL])) (fun hc => ?_)) (fun l m hl => ?_)
 ·exact ret_bind (hrec .sig (n + 1) trivial) (fun s m hs => ret_ok (by simp only [wtL, List.length_singleton]; omega))
 ·refine ret_bind (need_wt m) (fun _ m2 h2 => ?_)
  exact ret_bind (hrec .str m2 trivial) (fun b m3 hb => ret_ok (by simp only [wtL_append, wtL, List.length_append, List.length_singleton]; omega))
theorem structureO_wt {fr n : Nat} (hs : fr + 1 ≤ n) : Ret (structureO S rec d fr n) fun b m => b.wt + 1 + 3 * fr ≤ 3 * m := by
 unfold structureO
 refine ret_bind (take_wt n) (fun x m hx => ?_)
 exact ret_bind (bodyO_wt hrec m) (fun l m2 hl => ret_ok (by simp only [wt_marked, wt_node, List.length_singleton]; omega))
theorem functorO_wt {fr n : Nat} (hs : fr + 1 ≤ n) : Ret (functorO S rec d fr n) fun b m => b.wt + 1 + 3 * fr ≤ 3 * m := by
 unfold functorO
 refine ret_bind (take_wt n) (fun x m hx => ?_)
 refine ret_bind (need_wt m) (fun _ m2 h2 => ?_)
 refine ret_bind (take_wt m2) (fun y m3 hy => ?_)
 refine ret_bind (need_wt m3) (fun _ m4 h4 => ?_)
 refine ret_bind (hrec .sig m4 trivial) (fun g m5 hg => ?_)
 refine ret_bind (need_wt m5) (fun _ m6 h6 => ?_)
 exact ret_bind (bodyO_wt hrec m6) (fun l m7 hl => ret_ok (by simp only [wt_marked, wt_node, wtL_append, wtL, List.length_cons, List.length_nil]; omega))
theorem funL_wt (p : Nat) : ∀ (f : Nat) (acc : List Pb) (n : Nat), wtL acc + acc.length + 3 * p ≤ 3 * n → Ret (funL S F rec d f acc n) fun l m => wtL l + l.length + 3 * p ≤ 3 * m := by
 intro f
 induction f with
 | zero => intro acc n _; exact ret_dry
 | succ f ih =>
  intro acc n h
  unfold funL
  exact ret_if (fun _ => ret_bind (atomicPatO_wt hrec n) (fun b m hb => ih _ _ (by simp only [wtL_append, wtL, List.length_append, List.length_singleton]; omega))) (fun _ => ret_ok h)
theorem functionO_wt (n : Nat) : Ret (functionO S F rec d n) fun b m => b.wt + 1 + 3 * n ≤ 3 * m := by
 unfold functionO
 refine ret_bind (value_wt n) (fun x m hx => ?_)
 refine ret_bind (atomicPatO_wt hrec m) (fun b m2 hb => ?_)
 refine ret_bind (funL_wt hrec m F [b] m2 (by simp [wtL]; omega)) (fun l m3 hl => ?_)
 refine ret_bind (need_wt m3) (fun _ m4 h4 => ?_)
 exact ret_bind (hrec .exp m4 trivial) (fun e m5 he => ret_ok (by simp only [wt_node, wtL_append, wtL, List.length_singleton]; omega))
theorem localO_wt {fr n : Nat} (hs : fr + 1 ≤ n) (a : Nat) : Ret (localO S F rec d fr a n) fun b m => b.wt + 1 + 3 * fr ≤ 3 * m := by
 unfold localO
 refine ret_bind (withinO_wt hrec a n) (fun x m hx => ?_)
 refine ret_bind (need_wt m) (fun _ m2 h2 => ?_)
 refine ret_bind (withinO_wt hrec a m2) (fun y m3 hy => ?_)
 exact ret_bind (need_wt m3) (fun _ m4 h4 => ret_ok (by simp only [wt_node, wtL, List.length_nil]; omega))
theorem decB_wt (a n : Nat) : Ret (decB S F rec d a n) fun b m => b.wt + 1 + 3 * n ≤ 3 * m := by
 unfold decB
 refine ret_if (fun h => ?_) (fun q1 => ret_if (fun h => ?_) (fun q2 => ret_if (fun h => ?_) (fun q3 => ret_if (fun h => ?_) (fun q4 => ret_if (fun h => ?_) (fun q5 => ret_if (fun h => ?_) (fun q6 => ret_if (fun h => ?_) (fun q7 => ret_if (fun h => ?_) (fun q8 => ?_))))))))
 ·refine ret_bind (hrec .pat (n + 1) trivial) (fun p m hp => ?_)
  refine ret_bind (need_wt m) (fun _ m2 h2 => ?_)
  exact ret_bind (hrec .exp m2 trivial) (fun e m3 he => ret_ok (by simp only [wt_node, wtL, List.length_nil]; omega))
 ·exact ret_bind (rowO_wt F (functionO_wt hrec) (n + 1)) (fun l m hl => ret_ok (by simp only [wt_node, List.length_nil]; omega))
 ·refine ret_bind (typeNameO_wt (n + 1)) (fun x m hx => ?_)
  refine ret_bind (need_wt m) (fun _ m2 h2 => ?_)
  exact ret_bind (hrec .ty m2 trivial) (fun b m3 hb => ret_ok (by simp only [wt_node, wtL, List.length_singleton]; omega))
 ·exact datatypesO_wt hrec (by omega)
 ·exact structureO_wt hrec (by omega)
 ·refine ret_bind (take_wt (n + 1)) (fun x m hx => ?_)
  refine ret_bind (need_wt m) (fun _ m2 h2 => ?_)
  exact ret_bind (hrec .sig m2 trivial) (fun b m3 hb => ret_ok (by simp only [wt_node, wtL, List.length_singleton]; omega))
 ·exact functorO_wt hrec (by omega)
 ·exact ret_bind (path_wt (n + 1)) (fun p m hp => ret_ok (by simp only [wt_node, wtL]; omega))
 ·exact localO_wt hrec (by omega) a
theorem decO_wt (a n : Nat) : Ret (decO S F rec d a n) fun b m => b.wt + 1 + 3 * n ≤ 3 * m := by
 unfold decO
 exact ret_if (fun _ => decB_wt hrec a n) (fun _ => ret_form)
end

theorem parts_wt : ∀ (f : Nat) (nt : Nt) (d n : Nat), S.may nt n → Ret (parts S f nt d n) fun b m => b.wt + 1 + 3 * n ≤ 3 * m := by
 intro f
 induction f with
 | zero => intro nt d n _; exact ret_dry
 | succ f ih =>
  intro nt d n hm
  unfold parts
  refine ret_if (fun _ => ret_deep) (fun _ => ?_)
  have hrec : ∀ nt k, S.may nt k → Ret (parts S f nt (d + 1) k) fun b m => b.wt + 1 + 3 * k ≤ 3 * m := fun nt k hk => ih nt (d + 1) k hk
  cases nt with
  | exp => exact expO_wt hrec n
  | pat => exact patO_wt hrec n
  | ty => exact tyO_wt hrec n
  | sig => exact sigO_wt hrec n
  | str => exact strO_wt hrec n
  | dec a => exact decO_wt hrec a n
theorem fileO_wt (F : Nat) : Ret (fileO S F 0) fun b m => b.wt ≤ 3 * m + 1 := by
 unfold fileO
 exact ret_bind (decsO_wt (F := F) (rec := parts S F) (d := 0) (fun nt k hk => parts_wt F nt 0 k hk) 2 0) (fun l m hl => ret_ok (by simp only [wt_node, List.length_nil]; omega))
end
end Go.Proofs.YtkjgkchdkeggoaaGreatDoor

namespace Go.Proofs.YtkjgkchdkeggoaaGreatDoor
open Go.RowKit
set_option maxRecDepth 20000
set_option linter.unusedVariables false
set_option linter.unusedSimpArgs false

/-- Two lists of numbers compared. -/
def sameI (a b : List Int) : Bool := a == b
theorem sameI_len {a b : List Int} (h : a.length ≠ b.length) : sameI a b = false := by
 unfold sameI; rw [beq_eq_false_iff_ne]; intro e; exact h (by rw [e])
theorem sameI_at {a b : List Int} {k : Nat} (h1 : k < a.length) (h2 : k < b.length) (h : a[k] ≠ b[k]) : sameI a b = false := by
 unfold sameI; rw [beq_eq_false_iff_ne]; intro e; subst e; exact h rfl
theorem sameI_all {a b : List Int} (h : a.length = b.length) (hall : ∀ i (h1 : i < a.length) (h2 : i < b.length), a[i] = b[i]) : sameI a b = true := by
 unfold sameI; rw [beq_iff_eq]; exact List.ext_getElem h hall
mutual
/-- A branch's rows are short, and those of its parts. -/
def Br.Few : Br → Prop
 | .mk h ks => h.ns.length ≤ 1000000 ∧ ks.length ≤ 1000000 ∧ FewAll ks
def FewAll : List Br → Prop
 | [] => True
 | b :: r => b.Few ∧ FewAll r
end
theorem fewAll_iff (ks : List Br) : FewAll ks ↔ ∀ b ∈ ks, b.Few := by
 induction ks with
 | nil => simp [FewAll]
 | cons x r ih => simp [FewAll, ih]
theorem wtL_mem {l : List Pb} {b : Pb} (h : b ∈ l) : b.wt ≤ wtL l := by
 induction l with
 | nil => cases h
 | cons x r ih =>
  simp only [wtL]
  rcases List.mem_cons.1 h with rfl | h
  ·omega
  ·have := ih h; omega
theorem wt_pos (b : Pb) : 1 ≤ b.wt := by cases b; simp only [Pb.wt]; omega
theorem wtL_len (l : List Pb) : l.length ≤ wtL l := by
 induction l with
 | nil => simp
 | cons x r ih => have := wt_pos x; simp only [wtL, List.length_cons]; omega
theorem few_of_wt (y : Br) : y.pb.wt ≤ 1000000 → y.Few := by
 induction y using Br.ind with
 | hP h ks ih =>
  intro hw
  simp only [Br.pb, Pb.wt, pbs_map] at hw
  have h1 := wtL_len (ks.map Br.pb)
  rw [List.length_map] at h1
  simp only [Br.Few, fewAll_iff]
  refine ⟨by omega, by omega, fun b hb => ih b hb ?_⟩
  have := wtL_mem (List.mem_map.2 ⟨b, hb, rfl⟩ : b.pb ∈ ks.map Br.pb)
  omega
/-- The six cells, from a block that holds them. -/
theorem brAt_new (w : World) (h : Hd) (t : TypeId) : BrAt (w.alloc (.cells #[.int .i64 h.k, .int .i64 h.m, .int .i64 h.f, .int .i64 h.t, .slice h.np h.nn h.nc, .slice h.kp h.kn h.kc] t)) w.heap.size 0 h := by
 have hb := heap_alloc_new w (.cells #[.int .i64 h.k, .int .i64 h.m, .int .i64 h.f, .int .i64 h.t, .slice h.np h.nn h.nc, .slice h.kp h.kn h.kc] t)
 refine ⟨?_, ?_, ?_, ?_, ?_, ?_⟩ <;> (rw [Lib.cell_of_heap hb]; rfl)
theorem BrAt.box {w : World} {b : Nat} {h : Hd} (hat : BrAt w b 0 h) : w.cell? ⟨b, 0, none⟩ = some (.int .i64 h.k) ∧ w.cell? ⟨b, 1, none⟩ = some (.int .i64 h.m) ∧ w.cell? ⟨b, 2, none⟩ = some (.int .i64 h.f) ∧
  w.cell? ⟨b, 3, none⟩ = some (.int .i64 h.t) ∧ w.cell? ⟨b, 4, none⟩ = some (.slice h.np h.nn h.nc) ∧ w.cell? ⟨b, 5, none⟩ = some (.slice h.kp h.kn h.kc) := by
 simpa [BrAt] using hat
abbrev Hd.obj (h : Hd) : Obj := .cells #[.int .i64 h.k, .int .i64 h.m, .int .i64 h.f, .int .i64 h.t, .slice h.np h.nn h.nc, .slice h.kp h.kn h.kc] 26
/-- What a branch's box gives: the world behind it. -/
theorem boxed (w : World) (b : Br) (hl : b.Lies w) : ∃ w1, w1 = w.alloc b.h.obj ∧ BrAt w1 w.heap.size 0 b.h ∧ b.Lies w1 ∧ Below w.heap.size w w1 ∧ w1.heap.size = w.heap.size + 1 :=
 ⟨_, rfl, brAt_new w b.h 26, hl.step _ ((Below.refl w.heap.size w).alloc (Nat.le_refl _) _), (Below.refl w.heap.size w).alloc (Nat.le_refl _) _, by simp⟩

set_option maxHeartbeats 1000000 in
theorem refInts_any (p : Option Addr) (n c : Nat) (l : List Int) (p' : Option Addr) (n' c' : Nat) (l' : List Int) (w : World) (h : InV mkI w p n c l) (h' : InV mkI w p' n' c' l') (hn : n ≤ 17592186044416) :
  Calls Tryz.prog 24 #[.slice p n c, .slice p' n' c'] w fun e w' => e = .returned (.bool (sameI l l')) ∧ Below w.heap.size w w' := by
 by_cases hln : n = n'
 ·subst hln
  have hl := h.1
  have hl' := h'.1
  have HA := Lib.hid h
  have HA' := Lib.hid h'
  have HL := Lib.hid hl
  have HL' := Lib.hid hl'
  clear h h' hl hl'
  have hnz : (0 : Int) ≤ (n : Int) := by omega
  go_enter Tryz.func24, Tryz.ntmps24
  go_wp2_with fail
  go_loopw [5] (fun i wr => ∃ k : Nat, k ≤ n ∧ i = .int .i64 k ∧ Hid (∀ i (h1 : i < l.length) (h2 : i < l'.length), i < k → l[i] = l'[i]) ∧ ∃ m, wr = w.drewN m) (fun i _ => n - (intOf i).toNat)
  case atStart => exact ⟨0, by omega, rfl, Lib.hid (fun i _ _ h => by omega), 0, rfl⟩
  case round =>
   obtain ⟨k, hk, rfl, HE, m, rfl⟩ := hrel
   by_cases hlt : k < n
   ·obtain ⟨b, off, rfl, hc1, hb, hat⟩ := HA.out.2.resolve_left (by omega)
    obtain ⟨b', off', rfl, hc1', hb', hat'⟩ := HA'.out.2.resolve_left (by omega)
    have hkl : k < l.length := by rw [← HL.out]; exact hlt
    have hkl' : k < l'.length := by rw [← HL'.out]; exact hlt
    have c0 : w.cell? ⟨b, off + k, none⟩ = some (.int .i64 l[k]) := hat k hkl
    have c1 : w.cell? ⟨b', off' + k, none⟩ = some (.int .i64 l'[k]) := hat' k hkl'
    have hk1 : (0 : Int) ≤ (k : Int) := by omega
    have hk2 : (k : Int) < (n : Int) := by omega
    by_cases heq : l[k] = l'[k]
    ·have HE2 : Hid (∀ i (h1 : i < l.length) (h2 : i < l'.length), i < k + 1 → l[i] = l'[i]) := Lib.hid fun i h1 h2 hi => by
      rcases Nat.lt_or_ge i k with h3 | h3
      ·exact HE.out i h1 h2 h3
      ·obtain rfl : i = k := by omega
       exact heq
     rw [← heq] at c1
     clear heq hat hat'
     generalize l[k] = t at *
     go_wp2
     go_quiet (fail)
     go_wp2
     go_roundw
     case rel => exact ⟨k + 1, by omega, by go_num, HE2, _, rfl⟩
     case measure => simp [intOf]; omega
    ·have HR := Lib.hid (sameI_at hkl hkl' heq)
     clear hat hat'
     have hne : (l[k] == l'[k]) = false := by rw [beq_eq_false_iff_ne]; exact heq
     generalize l[k] = t at *
     generalize l'[k] = t' at *
     go_wp2
     go_quiet (fail)
     go_wp2
     go_ret
     exact ⟨ret_bool HR.out.symm, below_drewN (below_drewN (Below.refl _ _) _) _⟩
   ·have HR : Hid (sameI l l' = true) := Lib.hid (sameI_all (by rw [← HL.out, ← HL'.out]) fun i h1 h2 => HE.out i h1 h2 (by rw [← HL.out] at h1; omega))
    go_wp2
    go_ret
    exact ⟨ret_bool HR.out.symm, below_drewN (Below.refl _ _) _⟩
 ·have HR : Hid (sameI l l' = false) := Lib.hid (sameI_len (by rw [← h.1, ← h'.1]; exact hln))
  have hne : ((n : Int) == (n' : Int)) = false := by rw [beq_eq_false_iff_ne]; omega
  clear h h'
  go_enter Tryz.func24, Tryz.ntmps24
  go_wp2
  go_ret
  exact ⟨ret_bool HR.out.symm, Below.refl _ _⟩
mutual
/-- Are two branches the same, part by part? -/
def Br.same : Br → Br → Bool
 | .mk h ks, b => decide (h.k = b.h.k) && (decide (h.m = b.h.m) && (decide (h.f = b.h.f) && (decide (h.t = b.h.t) && (sameI h.ns b.h.ns && (decide (ks.length = b.ks.length) && sames ks b.ks)))))
def sames : List Br → List Br → Bool
 | [], _ => true
 | x :: r, l => match l with
  | [] => true
  | y :: s => x.same y && sames r s
end
theorem same_eq (a b : Br) : a.same b = (decide (a.h.k = b.h.k) && (decide (a.h.m = b.h.m) && (decide (a.h.f = b.h.f) && (decide (a.h.t = b.h.t) && (sameI a.h.ns b.h.ns && (decide (a.ks.length = b.ks.length) && sames a.ks b.ks)))))) := by
 cases a; cases b; rfl

set_option maxHeartbeats 4000000 in
theorem refSame_any (a : Br) : ∀ (b : Br) (w : World), a.Lies w → b.Lies w → a.Few →
  Calls Tryz.prog 10 #[a.h.val, b.h.val] w fun e w' => e = .returned (.bool (a.same b)) ∧ Below w.heap.size w w' := by
 induction a using Br.ind with
 | hP h ks ih =>
  intro b w hl hl' hfit
  obtain ⟨w1, e1, c1, l1, b1, s1⟩ := boxed w _ hl
  obtain ⟨w2, e2, c2, l2, b2, s2⟩ := boxed w1 _ (hl'.step _ b1)
  have c1 := c1.step (by omega) b2
  have l1 := l1.step _ b2
  have b12 := b1.trans (b2.mono (by omega))
  obtain ⟨hnames, hkids, hall⟩ := (lies_iff _ _).1 l1
  obtain ⟨hnames', hkids', hall'⟩ := (lies_iff _ _).1 l2
  simp only [Br.Few, fewAll_iff] at hfit
  simp only [Br.h, Br.ks] at hnames hkids hall c1 e1 e2 ⊢
  have HR := Lib.hid (same_eq (.mk h ks) b)
  simp only [Br.h, Br.ks] at HR
  obtain ⟨g, js⟩ := b
  simp only [Br.h, Br.ks] at hnames' hkids' hall' c2 e2 HR ⊢
  obtain ⟨hk, hm, hf, ht, np, nn, nc, ns, kp, kn, kc⟩ := h
  obtain ⟨gk, gm, gf, gt, np', nn', nc', ns', kp', kn', kc'⟩ := g
  obtain ⟨hfit1, hlen, hfit2⟩ := hfit
  have hkn : kn = ks.length := hkids.1
  have hkn' : kn' = js.length := hkids'.1
  subst hkn hkn'
  simp only at hfit1 hnames hnames' hkids hkids' HR
  have HI1 := Lib.hid (refInts_any np nn nc ns np' nn' nc' ns' w2 hnames hnames' (by have := hnames.1; omega))
  have HK := Lib.hid hkids
  have HK' := Lib.hid hkids'
  have HL := Lib.hid hall
  have HL' := Lib.hid hall'
  have HI := Lib.hid ih
  have HF2 := Lib.hid hfit2
  have HB := Lib.hid b12
  have HC1 := Lib.hid c1
  have HC2 := Lib.hid c2
  have S1 := Lib.hid s1
  have S2 := Lib.hid s2
  have E2 := Lib.hid e2
  subst e1
  generalize (Br.mk ⟨hk, hm, hf, ht, np, nn, nc, ns, kp, ks.length, kc⟩ ks).same (Br.mk ⟨gk, gm, gf, gt, np', nn', nc', ns', kp', js.length, kc'⟩ js) = q at *
  generalize sameI ns ns' = qi at *
  clear hnames hnames' hkids hkids' hall hall' ih hfit2 b12 c1 c2 l1 l2 b1 b2 hl hl' hfit1 s1 s2 e2
  by_cases h1 : hk = gk
  ·by_cases h2 : hm = gm
   ·by_cases h3 : hf = gf
    ·by_cases h4 : ht = gt
     ·subst h1 h2 h3 h4
      simp only [decide_true, Bool.true_and] at HR
      cases hqi : qi
      ·have hq : q = false := by rw [HR.out, hqi]; rfl
       subst hq
       rw [hqi] at HI1
       go_enter Tryz.func10, Tryz.ntmps10
       go_wp2_with fail
       rw [← E2.out]
       refine HI1.out.mono ?_
       rintro e w3 ⟨rfl, hb3⟩
       have HB3 := Lib.hid (HB.out.trans (hb3.mono HB.out.size))
       clear hb3
       go_wp2_with fail
       go_ret
       exact ⟨rfl, HB3.out⟩
      ·rw [hqi] at HI1
       by_cases h5 : ks.length = js.length
       ·have HR2 : Hid (q = sames (ks.drop 0) (js.drop 0)) := Lib.hid (by rw [HR.out, hqi]; simp [h5])
        have H5 := Lib.hid h5
        have hlj : ((ks.length : Int) == (js.length : Int)) = true := by rw [beq_iff_eq]; omega
        have hlj2 : ((ks.length : Int) != (js.length : Int)) = false := by simp [h5]
        clear HR h5
        go_enter Tryz.func10, Tryz.ntmps10
        go_wp2_with fail
        rw [← E2.out]
        refine HI1.out.mono ?_
        rintro e w3 ⟨rfl, hb3⟩
        have HB3 := Lib.hid hb3
        have hs2 := HB.out.size
        have hz3 := hb3.size
        have hz1 := S1.out
        have hz2 := S2.out
        obtain ⟨_, _, _, _, _, a5⟩ := (HC1.out.step (by omega) hb3).box
        obtain ⟨_, _, _, _, _, d5⟩ := (HC2.out.step (by omega) hb3).box
        rw [hz1] at d5
        clear hb3
        go_wp2_with fail
        go_loopw [5] (fun iv wr => ∃ i : Nat, i ≤ ks.length ∧ iv = .int .i64 i ∧ Hid (q = sames (ks.drop i) (js.drop i)) ∧ Below w3.heap.size w3 wr) (fun iv _ => ks.length - (intOf iv).toNat)
        case atStart => exact ⟨0, by omega, rfl, HR2, Below.refl _ _⟩
        case round =>
         obtain ⟨i, hi, rfl, HQ, hbe⟩ := hrel
         have t5 := (hbe.cell (p := ⟨w.heap.size, _, none⟩) (by show w.heap.size < w3.heap.size; omega)).trans a5
         have u5 := (hbe.cell (p := ⟨w.heap.size + 1, _, none⟩) (by show w.heap.size + 1 < w3.heap.size; omega)).trans d5
         have hz := hbe.size
         by_cases hlt : i < ks.length
         ·have hlt' : i < js.length := by rw [← H5.out]; exact hlt
          have hb3e := HB3.out.trans (hbe.mono hz3)
          obtain ⟨bx, ox, rfl, _, hbx, hatx⟩ := (HK.out.step hb3e).2.resolve_left (by omega)
          obtain ⟨bY, oY, rfl, _, hbY, hatY⟩ := (HK'.out.step hb3e).2.resolve_left (by omega)
          obtain ⟨x0, x1, x2, x3, x4, x5⟩ := hatx i hlt
          obtain ⟨y0, y1, y2, y3, y4, y5⟩ := hatY i hlt'
          have hmem := List.getElem_mem hlt
          have hmem' := List.getElem_mem hlt'
          have HX := Lib.hid (HI.out ks[i] hmem js[i] wr.drew (((HL.out _ hmem).step _ hb3e).step _ (Below.refl _ _).drew) (((HL'.out _ hmem').step _ hb3e).step _ (Below.refl _ _).drew) (HF2.out _ hmem))
          have HD : Hid (q = (ks[i].same js[i] && sames (ks.drop (i + 1)) (js.drop (i + 1)))) := Lib.hid (by
           rw [HQ.out, List.drop_eq_getElem_cons hlt, List.drop_eq_getElem_cons hlt']; simp only [sames])
          have hr1 : (0 : Int) ≤ (i : Int) := by omega
          have hr2 : (i : Int) < (ks.length : Int) := by omega
          have hr3 : (i : Int) < (js.length : Int) := by omega
          have HBE := Lib.hid hbe
          have hwn : w.heap.size < wr.heap.size := by omega
          have hwn1 : w.heap.size + 1 < wr.heap.size := by omega
          clear hatx hatY hmem hmem' hbe hb3e a5 d5 HK HK' HL HL' HI HF2 HQ H5 HI1 HC1 HC2 S1 S2 E2
          generalize ks[i] = x at *
          generalize js[i] = y at *
          cases hxy : x.same y
          ·have hq : q = false := by rw [HD.out, hxy]; rfl
           subst hq
           rw [hxy] at HX
           clear HD hxy
           go_wp2_with fail
           go_region_held3 (fun w' => w'.cell? ⟨w.heap.size, 5, none⟩ = some (.slice (some ⟨bx, ox, none⟩) ks.length kc) ∧ w'.cell? ⟨w.heap.size + 1, 5, none⟩ = some (.slice (some ⟨bY, oY, none⟩) js.length kc') ∧ w'.cell? ⟨bx, ox + i * 6, none⟩ = some (.int .i64 x.h.k) ∧ w'.cell? ⟨bx, ox + i * 6 + 1, none⟩ = some (.int .i64 x.h.m) ∧ w'.cell? ⟨bx, ox + i * 6 + 2, none⟩ = some (.int .i64 x.h.f) ∧ w'.cell? ⟨bx, ox + i * 6 + 3, none⟩ = some (.int .i64 x.h.t) ∧ w'.cell? ⟨bx, ox + i * 6 + 4, none⟩ = some (.slice x.h.np x.h.nn x.h.nc) ∧ w'.cell? ⟨bx, ox + i * 6 + 5, none⟩ = some (.slice x.h.kp x.h.kn x.h.kc) ∧ w'.cell? ⟨bY, oY + i * 6, none⟩ = some (.int .i64 y.h.k) ∧ w'.cell? ⟨bY, oY + i * 6 + 1, none⟩ = some (.int .i64 y.h.m) ∧ w'.cell? ⟨bY, oY + i * 6 + 2, none⟩ = some (.int .i64 y.h.f) ∧ w'.cell? ⟨bY, oY + i * 6 + 3, none⟩ = some (.int .i64 y.h.t) ∧ w'.cell? ⟨bY, oY + i * 6 + 4, none⟩ = some (.slice y.h.np y.h.nn y.h.nc) ∧ w'.cell? ⟨bY, oY + i * 6 + 5, none⟩ = some (.slice y.h.kp y.h.kn y.h.kc)) (go_keep) ((first | (go_at_call 10; refine HX.out.mono ?_; rintro e w4 ⟨rfl, hb4⟩; have z0 := (hb4.cell (p := ⟨w.heap.size, _, none⟩) hwn).trans t5; have z1 := (hb4.cell (p := ⟨w.heap.size + 1, _, none⟩) hwn1).trans u5; have z2 := (hb4.cell (p := ⟨bx, _, none⟩) hbx).trans x0; have z3 := (hb4.cell (p := ⟨bx, _, none⟩) hbx).trans x1; have z4 := (hb4.cell (p := ⟨bx, _, none⟩) hbx).trans x2; have z5 := (hb4.cell (p := ⟨bx, _, none⟩) hbx).trans x3; have z6 := (hb4.cell (p := ⟨bx, _, none⟩) hbx).trans x4; have z7 := (hb4.cell (p := ⟨bx, _, none⟩) hbx).trans x5; have z8 := (hb4.cell (p := ⟨bY, _, none⟩) hbY).trans y0; have z9 := (hb4.cell (p := ⟨bY, _, none⟩) hbY).trans y1; have z10 := (hb4.cell (p := ⟨bY, _, none⟩) hbY).trans y2; have z11 := (hb4.cell (p := ⟨bY, _, none⟩) hbY).trans y3; have z12 := (hb4.cell (p := ⟨bY, _, none⟩) hbY).trans y4; have z13 := (hb4.cell (p := ⟨bY, _, none⟩) hbY).trans y5)))
           have hb4' : Below wr.heap.size wr w4 := ((Below.refl _ _).drew).trans hb4
           have HB4 := Lib.hid (HB.out.trans ((HB3.out.trans (HBE.out.mono hz3)).mono HB.out.size |>.trans (hb4'.mono (by show w.heap.size ≤ wr.heap.size; omega))))
           clear hb4 hb4'
           go_wp2_with fail
           go_ret
           exact ⟨by first | trivial | rfl, HB4.out⟩
          ·have HD2 : Hid (q = sames (ks.drop (i + 1)) (js.drop (i + 1))) := Lib.hid (by rw [HD.out, hxy]; rfl)
           rw [hxy] at HX
           clear HD hxy
           go_wp2_with fail
           go_region_held3 (fun w' => w'.cell? ⟨w.heap.size, 5, none⟩ = some (.slice (some ⟨bx, ox, none⟩) ks.length kc) ∧ w'.cell? ⟨w.heap.size + 1, 5, none⟩ = some (.slice (some ⟨bY, oY, none⟩) js.length kc') ∧ w'.cell? ⟨bx, ox + i * 6, none⟩ = some (.int .i64 x.h.k) ∧ w'.cell? ⟨bx, ox + i * 6 + 1, none⟩ = some (.int .i64 x.h.m) ∧ w'.cell? ⟨bx, ox + i * 6 + 2, none⟩ = some (.int .i64 x.h.f) ∧ w'.cell? ⟨bx, ox + i * 6 + 3, none⟩ = some (.int .i64 x.h.t) ∧ w'.cell? ⟨bx, ox + i * 6 + 4, none⟩ = some (.slice x.h.np x.h.nn x.h.nc) ∧ w'.cell? ⟨bx, ox + i * 6 + 5, none⟩ = some (.slice x.h.kp x.h.kn x.h.kc) ∧ w'.cell? ⟨bY, oY + i * 6, none⟩ = some (.int .i64 y.h.k) ∧ w'.cell? ⟨bY, oY + i * 6 + 1, none⟩ = some (.int .i64 y.h.m) ∧ w'.cell? ⟨bY, oY + i * 6 + 2, none⟩ = some (.int .i64 y.h.f) ∧ w'.cell? ⟨bY, oY + i * 6 + 3, none⟩ = some (.int .i64 y.h.t) ∧ w'.cell? ⟨bY, oY + i * 6 + 4, none⟩ = some (.slice y.h.np y.h.nn y.h.nc) ∧ w'.cell? ⟨bY, oY + i * 6 + 5, none⟩ = some (.slice y.h.kp y.h.kn y.h.kc)) (go_keep) ((first | (go_at_call 10; refine HX.out.mono ?_; rintro e w4 ⟨rfl, hb4⟩; have z0 := (hb4.cell (p := ⟨w.heap.size, _, none⟩) hwn).trans t5; have z1 := (hb4.cell (p := ⟨w.heap.size + 1, _, none⟩) hwn1).trans u5; have z2 := (hb4.cell (p := ⟨bx, _, none⟩) hbx).trans x0; have z3 := (hb4.cell (p := ⟨bx, _, none⟩) hbx).trans x1; have z4 := (hb4.cell (p := ⟨bx, _, none⟩) hbx).trans x2; have z5 := (hb4.cell (p := ⟨bx, _, none⟩) hbx).trans x3; have z6 := (hb4.cell (p := ⟨bx, _, none⟩) hbx).trans x4; have z7 := (hb4.cell (p := ⟨bx, _, none⟩) hbx).trans x5; have z8 := (hb4.cell (p := ⟨bY, _, none⟩) hbY).trans y0; have z9 := (hb4.cell (p := ⟨bY, _, none⟩) hbY).trans y1; have z10 := (hb4.cell (p := ⟨bY, _, none⟩) hbY).trans y2; have z11 := (hb4.cell (p := ⟨bY, _, none⟩) hbY).trans y3; have z12 := (hb4.cell (p := ⟨bY, _, none⟩) hbY).trans y4; have z13 := (hb4.cell (p := ⟨bY, _, none⟩) hbY).trans y5)))
           have hb4' : Below wr.heap.size wr w4 := ((Below.refl _ _).drew).trans hb4
           have HB4 := Lib.hid (HBE.out.trans (hb4'.mono hz))
           clear hb4 hb4'
           go_wp2_with fail
           go_roundw
           case rel => exact ⟨i + 1, by omega, by go_num, HD2, HB4.out⟩
           case measure => simp [intOf]; omega
         ·have hq : q = true := by rw [HQ.out, List.drop_eq_nil_of_le (by omega)]; simp only [sames]
          subst hq
          have HBE := Lib.hid (HB.out.trans ((HB3.out.trans (hbe.mono hz3)).mono HB.out.size))
          clear hbe
          go_wp2_with fail
          go_ret
          exact ⟨by first | trivial | rfl, HBE.out⟩
       ·have hq : q = false := by rw [HR.out, hqi]; simp [h5]
        subst hq
        have hlj : ((ks.length : Int) == (js.length : Int)) = false := by rw [beq_eq_false_iff_ne]; omega
        go_enter Tryz.func10, Tryz.ntmps10
        go_wp2_with fail
        rw [← E2.out]
        refine HI1.out.mono ?_
        rintro e w3 ⟨rfl, hb3⟩
        have HB3 := Lib.hid (HB.out.trans (hb3.mono HB.out.size))
        have hz1 := S1.out
        have hz2 := S2.out
        obtain ⟨_, _, _, _, _, a5⟩ := (HC1.out.step (by omega) hb3).box
        obtain ⟨_, _, _, _, _, d5⟩ := (HC2.out.step (by omega) hb3).box
        rw [hz1] at d5
        clear hb3
        go_wp2_with fail
        go_ret
        exact ⟨by first | trivial | rfl, HB3.out⟩
     ·subst h1 h2 h3
      have hq : q = false := by rw [HR.out]; simp [h4]
      subst hq
      have hne : (ht == gt) = false := by rw [beq_eq_false_iff_ne]; exact h4
      go_enter Tryz.func10, Tryz.ntmps10
      go_wp2_with fail
      go_ret
      exact ⟨by first | trivial | rfl, by have := HB.out; rw [E2.out] at this; exact this⟩
    ·subst h1 h2
     have hq : q = false := by rw [HR.out]; simp [h3]
     subst hq
     have hne : (hf == gf) = false := by rw [beq_eq_false_iff_ne]; exact h3
     go_enter Tryz.func10, Tryz.ntmps10
     go_wp2_with fail
     go_ret
     exact ⟨by first | trivial | rfl, by have := HB.out; rw [E2.out] at this; exact this⟩
   ·subst h1
    have hq : q = false := by rw [HR.out]; simp [h2]
    subst hq
    have hne : (hm == gm) = false := by rw [beq_eq_false_iff_ne]; exact h2
    go_enter Tryz.func10, Tryz.ntmps10
    go_wp2_with fail
    go_ret
    exact ⟨by first | trivial | rfl, by have := HB.out; rw [E2.out] at this; exact this⟩
  ·have hq : q = false := by rw [HR.out]; simp [h1]
   subst hq
   have hne : (hk == gk) = false := by rw [beq_eq_false_iff_ne]; exact h1
   go_enter Tryz.func10, Tryz.ntmps10
   go_wp2_with fail
   go_ret
   exact ⟨by first | trivial | rfl, by have := HB.out; rw [E2.out] at this; exact this⟩
theorem sames_pb {ks : List Br} (ih : ∀ a ∈ ks, ∀ b : Br, a.pb = b.pb → a.same b = true) : ∀ js : List Br, ks.map Br.pb = js.map Br.pb → sames ks js = true := by
 induction ks with
 | nil => intro js _; simp only [sames]
 | cons x r ih2 =>
  intro js h
  cases js with
  | nil => cases h
  | cons y s =>
   simp only [List.map_cons, List.cons.injEq] at h
   simp only [sames, ih x (by simp) y h.1, ih2 (fun a ha => ih a (by simp [ha])) s h.2, Bool.and_self]
/-- Branches that are the same as such are the same part by part. -/
theorem same_pb (a : Br) : ∀ b : Br, a.pb = b.pb → a.same b = true := by
 induction a using Br.ind with
 | hP h ks ih =>
  intro b hb
  obtain ⟨g, js⟩ := b
  simp only [Br.pb, Pb.mk.injEq, pbs_map] at hb
  obtain ⟨h1, h2, h3, h4, h5, h6⟩ := hb
  have h7 := congrArg List.length h6
  simp only [List.length_map] at h7
  rw [same_eq]
  simp only [Br.h, Br.ks, h1, h2, h3, h4, h5, h7, decide_true, Bool.true_and, sames_pb ih js h6, sameI, beq_self_eq_true]
end Go.Proofs.YtkjgkchdkeggoaaGreatDoor

namespace Go.Proofs.YtkjgkchdkeggoaaGreatDoor
open Go.RowKit
set_option maxRecDepth 20000
set_option linter.unusedVariables false
set_option linter.unusedSimpArgs false

theorem bcell {W w1 : World} (hb : Below W.heap.size W w1) : (∀ b o, b < W.heap.size → w1.cell? ⟨b, o, none⟩ = W.cell? ⟨b, o, none⟩) :=
 fun b o h => hb.cell (p := ⟨b, o, none⟩) h
def tkR (s : ByteArray) (k : Nat) : Bool := (s.data.toList.take k).all restB
def tkS (s : ByteArray) (k : Nat) : Bool := (s.data.toList.take k).all signB
theorem tk_snoc (f : UInt8 → Bool) (s : ByteArray) (k : Nat) (h : k < s.size) : (s.data.toList.take (k + 1)).all f = ((s.data.toList.take k).all f && f s[k]) := by
 rw [List.take_succ_eq_append_getElem (by rw [data_len]; exact h), data_at s k h]; simp
/-- What the kind is behind the loop, where the text is no mark and not empty. -/
theorem ref_sign (s : ByteArray) (h0 : 0 < s.size) (hm : mkB s = false) (hs : allS s = true) : kindN s = 9 := by
 have h1 := allS_cons s h0 hs
 have hb : begN s = 9 := by
  rw [beg_eq s h0, h1]
  cases e1 : lowB s[0]
  ·cases e2 : capB s[0]
   ·rfl
   ·have := rest_sign _ (cap_rest _ e2); rw [h1] at this; exact absurd this (by simp)
  ·have := rest_sign _ (low_rest _ e1); rw [h1] at this; exact absurd this (by simp)
 unfold kindN; rw [hm, hb, hs]; rfl
theorem ref_not (s : ByteArray) (hm : mkB s = false) (hs : allS s = false) (hr : allR s = false) : kindN s = 0 := by
 unfold kindN; rw [hm, hs, hr]; cases begN s == 9 <;> cases begN s == 0 <;> rfl
theorem ref_rest (s : ByteArray) (h0 : 0 < s.size) (hm : mkB s = false) (hs : allS s = false) (hr : allR s = true) :
  kindN s = bif capB s[0] then 7 else bif (((s[0].toNat : Int) == 39) && secB s) then 8 else bif lowB s[0] then (bif kwB s then 10 else 6) else 0 := by
 have h1 := rest_sign _ (allR_first s h0 hr)
 have hb := beg_eq s h0
 have e1 := low_cap s[0]
 have e2 := tick_low s[0]
 have e3 := tick_cap s[0]
 have hk := kw_not s
 rw [h1] at hb
 unfold kindN
 rw [hm, hs, hr]
 cases a : capB s[0]
 ·cases b : ((s[0].toNat : Int) == 39)
  ·simp only [a, b, cond_false, Bool.false_and] at hb
   cases c : lowB s[0] <;> simp only [c, cond_true, cond_false] at hb <;> rw [hb] <;> cases kwB s <;> rfl
  ·rw [e2 b, a, b] at hb
   rw [e2 b]
   cases d : secB s <;> simp only [d, cond_true, cond_false, Bool.true_and] at hb <;> rw [hb] <;> rw [hb] at hk <;> simp only [hk (by omega)] <;> rfl
 ·rw [e1 a, a] at hb
  simp only [cond_true, cond_false] at hb
  rw [hb] at hk ⊢
  rw [hk (by omega)]
  rfl

set_option maxHeartbeats 2000000 in
theorem refKind_none (s : ByteArray) (w : World) (h0 : s.size = 0) : Calls Tryz.prog 67 #[.string s] w fun e w' => e = .returned (.int .i64 (kindN s)) ∧ Below w.heap.size w w' := by
 have he : s.toList = [] := by rw [Lib.toList_data, ← List.length_eq_zero_iff, data_len]; exact h0
 have hem : s.toList.isEmpty = true := by rw [he]; rfl
 have HN : Hid (kindN s = 0) := Lib.hid (by
  have hm : mkB s = false := by rw [mk_iff s, he]; rfl
  unfold kindN; rw [hm, beg_none s h0]; rfl)
 clear h0 he
 go_enter Tryz.func67, Tryz.ntmps67
 go_wp2
 go_ret
 exact ⟨ret_int HN.out.symm, Below.refl _ _⟩

set_option maxHeartbeats 2000000 in
theorem refKind_some (s : ByteArray) (w : World) (h0 : 0 < s.size) (hs : s.size ≤ 9223372036854775807) : Calls Tryz.prog 67 #[.string s] w fun e w' => e = .returned (.int .i64 (kindN s)) ∧ Below w.heap.size w w' := by
 have hem : s.toList.isEmpty = false := by
  rw [Lib.toList_data]
  cases e : s.data.toList with
  | nil => have := data_len s; rw [e] at this; simp at this; omega
  | cons => rfl
 have HN1 := ref_sign s h0
 have HN2 := ref_not s
 have HN3 := ref_rest s h0
 cases hm : mkB s
 case true =>
  have HN : Hid (kindN s = 11) := Lib.hid (by unfold kindN; rw [hm]; rfl)
  clear HN1 HN2 HN3
  go_enter Tryz.func67, Tryz.ntmps67
  go_wp2_with (first | (go_at_call 92; refine (marks_any w).mono ?_; rintro e w1 ⟨rfl, hi, hb⟩) | (go_at_call 91; refine (in_any mkT s _ 12 12 _ hi (by omega)).mono ?_; rw [show inB mkT s = true from hm]; rintro e w2 ⟨rfl, rfl⟩))
  go_ret
  exact ⟨ret_int HN.out.symm, hb⟩
 have HL : Hid (mkB s = false) := Lib.hid hm
 have h1 := Lib.hid (HN1 hm)
 have h2 := Lib.hid (HN2 hm)
 have h3 := Lib.hid (HN3 hm)
 clear HN1 HN2 HN3 hm
 go_enter Tryz.func67, Tryz.ntmps67
 go_wp2_with (first | (go_at_call 92; refine (marks_any w).mono ?_; rintro e w1 ⟨rfl, hi, hb⟩) | (go_at_call 91; refine (in_any mkT s _ 12 12 _ hi (by omega)).mono ?_; rw [show inB mkT s = false from HL.out]; rintro e w2 ⟨rfl, rfl⟩))
 clear hi
 go_loop [3, 4, 5] (fun r g i => ∃ k : Nat, k ≤ s.size ∧ i = .int .i64 k ∧ r = .bool (tkR s k) ∧ g = .bool (tkS s k)) (fun _ _ i => s.size - (intOf i).toNat)
 case atStart => exact ⟨0, by omega, rfl, rfl, rfl⟩
 case round =>
  obtain ⟨k, hk, rfl, rfl, rfl⟩ := hrel
  by_cases hlt : k < s.size
  ·have HR := fun w => refRest_any s[k] w
   have HS := fun w => signs_any s[k] w
   have E1 := Lib.hid (tk_snoc restB s k hlt)
   have E2 := Lib.hid (tk_snoc signB s k hlt)
   have F1 : Hid (tkR s (k + 1) = (tkR s k && restB s[k])) := Lib.hid E1.out
   have F2 : Hid (tkS s (k + 1) = (tkS s k && signB s[k])) := Lib.hid E2.out
   clear E1 E2
   cases ha : tkR s k <;> cases hb : tkS s k <;> cases hc : restB s[k] <;> cases hd : signB s[k] <;> simp only [ha, hb, hc, hd, Bool.and_true, Bool.and_false] at F1 F2 HR HS <;> clear ha hb hc hd
   all_goals
    go_wp2_with (first | (go_at_call 64; refine (HR _).mono ?_; rintro e w2 ⟨rfl, rfl⟩) | (go_at_call 66; refine (HS _).mono ?_; rintro e w2 ⟨rfl, rfl⟩))
    go_round
    case rel => exact ⟨k + 1, by omega, by go_num, by rw [F1.out], by rw [F2.out]⟩
    case measure => simp [intOf]; omega
  ·have e1 : tkR s k = allR s := by unfold tkR allR; rw [List.take_of_length_le (by rw [data_len]; omega)]
   have e2 : tkS s k = allS s := by unfold tkS allS; rw [List.take_of_length_le (by rw [data_len]; omega)]
   rw [e1, e2]
   cases hS : allS s
   case true =>
    have HN := Lib.hid (h1.out hS)
    clear e1 e2 hS
    go_wp2
    go_ret
    exact ⟨ret_int HN.out.symm, hb⟩
   cases hR : allR s
   case false =>
    have HN := Lib.hid (h2.out hS hR)
    clear e1 e2 hS hR
    go_wp2
    go_ret
    exact ⟨ret_int HN.out.symm, hb⟩
   have HN := Lib.hid (h3.out hS hR)
   have HC := fun w => great_any s[0] w
   have HLo := fun w => small_any s[0] w
   have HK0 : Hid (inB kwT s = kwB s) := Lib.hid rfl
   clear e1 e2 hS hR h1 h2 h3
   cases hcap : capB s[0]
   case true =>
    simp only [hcap, cond_true] at HN HC
    clear hcap
    go_wp2_with (first | (go_at_call 90; refine (HC _).mono ?_; rintro e w2 ⟨rfl, rfl⟩))
    go_ret
    exact ⟨ret_int HN.out.symm, hb⟩
   simp only [hcap, cond_false] at HN HC
   clear hcap
   have hsec : secB s = true → 1 < s.size := by
    intro h
    by_cases h1 : s.size = 1
    ·unfold secB at h; rw [toList_one s h1] at h; simp at h
    ·omega
   cases hq : (((s[0].toNat : Int) == 39) && secB s)
   case true =>
    obtain ⟨hq1, hq2⟩ := Bool.and_eq_true_iff.1 hq
    have hz := hsec hq2
    have HD := fun w => small_any s[1] w
    have hl : lowB s[1] = true := by unfold secB at hq2; rw [toList_more s hz] at hq2; exact hq2
    simp only [hq, cond_true] at HN
    simp only [hl] at HD
    clear hq hq2 hsec hl
    go_wp2_with (first | (go_at_call 90; refine (HC _).mono ?_; rintro e w2 ⟨rfl, rfl⟩) | (go_at_call 89; refine (HD _).mono ?_; rintro e w2 ⟨rfl, rfl⟩))
    go_ret
    exact ⟨ret_int HN.out.symm, hb⟩
   simp only [hq, cond_false] at HN
   cases hq1 : ((s[0].toNat : Int) == 39)
   case true =>
    have hlo := tick_low _ hq1
    have hs2 : secB s = false := by rw [hq1, Bool.true_and] at hq; exact hq
    simp only [hlo, cond_false] at HN HLo
    clear hlo hq hsec
    by_cases hz : s.size = 1
    ·have hz' : s.size ≤ 1 := by omega
     clear hs2 hz
     go_wp2_with (first | (go_at_call 90; refine (HC _).mono ?_; rintro e w2 ⟨rfl, rfl⟩) | (go_at_call 89; refine (HLo _).mono ?_; rintro e w2 ⟨rfl, rfl⟩))
     go_ret
     exact ⟨ret_int HN.out.symm, hb⟩
    ·have hz' : 1 < s.size := by omega
     have HD := fun w => small_any s[1] w
     have hl : lowB s[1] = false := by unfold secB at hs2; rw [toList_more s hz'] at hs2; exact hs2
     simp only [hl] at HD
     clear hs2 hz hl
     go_wp2_with (first | (go_at_call 90; refine (HC _).mono ?_; rintro e w2 ⟨rfl, rfl⟩) | (go_at_call 89; refine (HLo _).mono ?_; rintro e w2 ⟨rfl, rfl⟩) | (go_at_call 89; refine (HD _).mono ?_; rintro e w2 ⟨rfl, rfl⟩))
     go_ret
     exact ⟨ret_int HN.out.symm, hb⟩
   clear hq hsec
   cases hl : lowB s[0] <;> simp only [hl, cond_true, cond_false] at HN HLo <;> clear hl
   case false =>
    go_wp2_with (first | (go_at_call 90; refine (HC _).mono ?_; rintro e w2 ⟨rfl, rfl⟩) | (go_at_call 89; refine (HLo _).mono ?_; rintro e w2 ⟨rfl, rfl⟩))
    go_ret
    exact ⟨ret_int HN.out.symm, hb⟩
   cases hkw : kwB s
   all_goals
    rw [hkw] at HK0
    simp only [hkw, cond_true, cond_false] at HN
    clear hkw
    go_wp2_with (first | (go_at_call 90; refine (HC _).mono ?_; rintro e w2 ⟨rfl, rfl⟩) | (go_at_call 89; refine (HLo _).mono ?_; rintro e w2 ⟨rfl, rfl⟩) | (go_at_call 93; refine (refKeywords_any _).mono ?_; rintro e w2 ⟨rfl, hi2, hb2⟩) | (go_at_call 91; refine (in_any kwT s _ 25 25 _ hi2 (by omega)).mono ?_; rw [HK0.out]; rintro e w3 ⟨rfl, rfl⟩))
    go_ret
    exact ⟨ret_int HN.out.symm, hb.trans (hb2.mono hb.size)⟩
theorem refKind_any (s : ByteArray) (w : World) (hs : s.size ≤ 9223372036854775807) : Calls Tryz.prog 67 #[.string s] w fun e w' => e = .returned (.int .i64 (kindN s)) ∧ Below w.heap.size w w' := by
 by_cases h0 : s.size = 0
 ·exact refKind_none s w h0
 ·exact refKind_some s w (by omega) hs
end Go.Proofs.YtkjgkchdkeggoaaGreatDoor

namespace Go.Proofs.YtkjgkchdkeggoaaGreatDoor
open Go.RowKit
set_option maxRecDepth 20000
set_option linter.unusedVariables false
set_option linter.unusedSimpArgs false

theorem dblank_any (c : UInt8) (w : World) : Calls Tryz.prog 61 #[.int .u8 (c.toNat : Int)] w fun e w' => e = .returned (.bool (blankB c)) ∧ w = w' := by
 have hc := c.toNat_lt
 have HB : Hid (blankB c = (((c.toNat : Int) == 32) || ((c.toNat : Int) == 9) || ((c.toNat : Int) == 10) || ((c.toNat : Int) == 13))) := Lib.hid rfl
 go_enter Tryz.func61, Tryz.ntmps61
 go_wp2
 all_goals
  go_ret
  exact ⟨ret_bool (by simp [HB.out, *]), rfl⟩
theorem ddigit_any (c : UInt8) (w : World) : Calls Tryz.prog 65 #[.int .u8 (c.toNat : Int)] w fun e w' => e = .returned (.bool (digB c)) ∧ w = w' := by
 have hc := c.toNat_lt
 by_cases h1 : 48 ≤ c.toNat
 ·have h : Hid (digB c = decide ((c.toNat : Int) ≤ 57)) := Lib.hid (by unfold digB; rw [Bool.eq_iff_iff]; simp; omega)
  go_enter Tryz.func65, Tryz.ntmps65
  go_wp2
  go_ret
  exact ⟨ret_bool h.out.symm, rfl⟩
 ·have h : Hid (digB c = false) := Lib.hid (by unfold digB; simp; omega)
  go_enter Tryz.func65, Tryz.ntmps65
  go_wp2
  go_ret
  exact ⟨ret_bool h.out.symm, rfl⟩

/-- The end of notes, as the document finds it. -/
def dn : Int → List UInt8 → Option Nat
 | D, a :: b :: r =>
  bif ((a.toNat : Int) == 40) && ((b.toNat : Int) == 42) then (dn (D + 1) r).map (· + 2)
  else bif ((a.toNat : Int) == 42) && ((b.toNat : Int) == 41) then (bif D - 1 == 0 then some 2 else (dn (D - 1) r).map (· + 2))
  else (dn D (b :: r)).map (· + 1)
 | _, _ => none
def dnR (s : ByteArray) (D : Int) (k : Nat) : Int := match dn D (s.data.toList.drop k) with | some m => ((k + m : Nat) : Int) | none => 0
theorem drop_two (s : ByteArray) (k : Nat) (h : k + 1 < s.size) : s.data.toList.drop k = s[k] :: s[k + 1] :: s.data.toList.drop (k + 2) := by
 rw [drop_at s k (by omega), drop_at s (k + 1) h]
theorem drop_short (s : ByteArray) (D : Int) (k : Nat) (h : s.size ≤ k + 1) : dnR s D k = 0 := by
 unfold dnR
 have hl : (s.data.toList.drop k).length ≤ 1 := by rw [List.length_drop, data_len]; omega
 match hd : s.data.toList.drop k, hl with
 | [], _ => rfl
 | [a], _ => rfl
theorem dnR_open (s : ByteArray) (D : Int) (k : Nat) (h : k + 1 < s.size) (h1 : ((s[k].toNat : Int) == 40) = true) (h2 : ((s[k + 1].toNat : Int) == 42) = true) : dnR s D k = dnR s (D + 1) (k + 2) := by
 unfold dnR
 rw [drop_two s k h]
 simp only [dn, h1, h2, Bool.and_self, cond_true]
 cases dn (D + 1) (s.data.toList.drop (k + 2)) with
 | none => rfl
 | some m => show ((k + (m + 2) : Nat) : Int) = ((k + 2 + m : Nat) : Int); omega
theorem dnR_shut (s : ByteArray) (D : Int) (k : Nat) (h : k + 1 < s.size) (h1 : ((s[k].toNat : Int) == 42) = true) (h2 : ((s[k + 1].toNat : Int) == 41) = true) (h3 : (D - 1 == 0) = false) : dnR s D k = dnR s (D - 1) (k + 2) := by
 have h4 : ((s[k].toNat : Int) == 40) = false := by rw [beq_iff_eq.1 h1]; rfl
 unfold dnR
 rw [drop_two s k h]
 simp only [dn, h1, h2, h3, h4, Bool.and_self, Bool.false_and, cond_true, cond_false]
 cases dn (D - 1) (s.data.toList.drop (k + 2)) with
 | none => rfl
 | some m => show ((k + (m + 2) : Nat) : Int) = ((k + 2 + m : Nat) : Int); omega
theorem dnR_end (s : ByteArray) (D : Int) (k : Nat) (h : k + 1 < s.size) (h1 : ((s[k].toNat : Int) == 42) = true) (h2 : ((s[k + 1].toNat : Int) == 41) = true) (h3 : (D - 1 == 0) = true) : dnR s D k = ((k + 2 : Nat) : Int) := by
 have h4 : ((s[k].toNat : Int) == 40) = false := by rw [beq_iff_eq.1 h1]; rfl
 unfold dnR
 rw [drop_two s k h]
 simp only [dn, h1, h2, h3, h4, Bool.and_self, Bool.false_and, cond_true, cond_false]
theorem dnR_more (s : ByteArray) (D : Int) (k : Nat) (h : k + 1 < s.size) (h1 : (((s[k].toNat : Int) == 40) && ((s[k + 1].toNat : Int) == 42)) = false) (h2 : (((s[k].toNat : Int) == 42) && ((s[k + 1].toNat : Int) == 41)) = false) : dnR s D k = dnR s D (k + 1) := by
 unfold dnR
 rw [drop_two s k h]
 simp only [dn, h1, h2, cond_false]
 rw [drop_at s (k + 1) h]
 cases dn D (s[k + 1] :: s.data.toList.drop (k + 1 + 1)) with
 | none => rfl
 | some m => show ((k + (m + 1) : Nat) : Int) = ((k + 1 + m : Nat) : Int); omega

set_option maxHeartbeats 2000000 in
theorem dnote_any (s : ByteArray) (hs : s.size ≤ 1000000) (a : Nat) (ha : a < s.size) (w : World) : Calls Tryz.prog 62 #[.string s, .int .i64 (a : Int)] w fun e w' => e = .returned (.int .i64 (dnR s 0 a)) ∧ w = w' := by
 obtain ⟨R, hR⟩ : ∃ R, R = dnR s 0 a := ⟨_, rfl⟩
 rw [← hR]
 have HR := Lib.hid hR
 clear hR
 go_enter Tryz.func62, Tryz.ntmps62
 go_wp2
 go_loop [5, 6] (fun dp i => ∃ (D : Int) (k : Nat), k ≤ s.size ∧ -(k : Int) ≤ D ∧ D ≤ k ∧ i = .int .i64 k ∧ dp = .int .i64 D ∧ Hid (R = dnR s D k)) (fun _ i => s.size - (intOf i).toNat)
 case atStart => exact ⟨0, a, by omega, by omega, by omega, rfl, rfl, HR⟩
 case round =>
  obtain ⟨D, k, hk, hd1, hd2, rfl, rfl, hq⟩ := hrel
  clear HR
  obtain ⟨j, hj⟩ : ∃ j : Nat, (k : Int) + 1 = (j : Int) := ⟨k + 1, by omega⟩
  by_cases hlt : k + 1 < s.size
  ·have hjk : j = k + 1 := by omega
   have hjlt : j < s.size := by omega
   have hklt : k < s.size := by omega
   have q1 := dnR_open s D k hlt
   have q2 := dnR_shut s D k hlt
   have q3 := dnR_end s D k hlt
   have q4 := dnR_more s D k hlt
   have ej : s[k + 1] = s[j] := by simp [hjk]
   rw [ej] at q1 q2 q3 q4
   clear ej
   have hnx : (j : Int) + 1 = ((j + 1 : Nat) : Int) := by omega
   have hm1 : s.size - (intOf (.int .i64 ((j + 1 : Nat) : Int))).toNat < s.size - (intOf (.int .i64 (k : Int))).toNat := by simp [intOf]; omega
   have hm2 : s.size - (intOf (.int .i64 (j : Int))).toNat < s.size - (intOf (.int .i64 (k : Int))).toNat := by simp [intOf]; omega
   have HM1 := Lib.hid hm1
   have HM2 := Lib.hid hm2
   clear hm1 hm2
   have HJ := Lib.hid hjk
   have HX := Lib.hid hnx
   clear hjk hnx
   cases h1 : ((s[k].toNat : Int) == 40)
   case false =>
    cases h3 : ((s[k].toNat : Int) == 42)
    case false =>
     have HN := Lib.hid (hq.out.trans (q4 (by rw [h1]; rfl) (by rw [h3]; rfl)))
     clear q1 q2 q3 q4 hq
     go_wp2
     go_round
     case rel => exact ⟨D, k + 1, by have := HJ.out; omega, by omega, by omega, by rw [← HJ.out], rfl, HN⟩
     case measure => exact HM2.out
    case true =>
     cases h4 : ((s[j].toNat : Int) == 41)
     case false =>
      have HN := Lib.hid (hq.out.trans (q4 (by rw [h1]; rfl) (by rw [h4]; simp)))
      clear q1 q2 q3 q4 hq
      go_wp2
      go_round
      case rel => exact ⟨D, k + 1, by have := HJ.out; omega, by omega, by omega, by rw [← HJ.out], rfl, HN⟩
      case measure => exact HM2.out
     case true =>
      cases h5 : (D - 1 == 0)
      case false =>
       have HN := Lib.hid (hq.out.trans (q2 h3 h4 h5))
       clear q1 q2 q3 q4 hq
       go_wp2
       go_round
       case rel => exact ⟨D - 1, k + 2, by have := HJ.out; omega, by omega, by omega, by rw [HX.out, HJ.out], rfl, HN⟩
       case measure => rw [HX.out]; exact HM1.out
      case true =>
       have HN := Lib.hid (hq.out.trans (q3 h3 h4 h5))
       clear q1 q2 q3 q4 hq
       go_wp2
       go_ret
       exact ⟨ret_int (by rw [HN.out, HX.out, HJ.out]), rfl⟩
   case true =>
    have h3 : ((s[k].toNat : Int) == 42) = false := by rw [beq_iff_eq.1 h1]; rfl
    cases h2 : ((s[j].toNat : Int) == 42)
    case false =>
     have HN := Lib.hid (hq.out.trans (q4 (by rw [h2]; simp) (by rw [h3]; rfl)))
     clear q1 q2 q3 q4 hq
     go_wp2
     go_round
     case rel => exact ⟨D, k + 1, by have := HJ.out; omega, by omega, by omega, by rw [← HJ.out], rfl, HN⟩
     case measure => exact HM2.out
    case true =>
     have HN := Lib.hid (hq.out.trans (q1 h1 h2))
     clear q1 q2 q3 q4 hq
     go_wp2
     go_round
     case rel => exact ⟨D + 1, k + 2, by have := HJ.out; omega, by omega, by omega, by rw [HX.out, HJ.out], rfl, HN⟩
     case measure => rw [HX.out]; exact HM1.out
  ·have HN := Lib.hid (hq.out.trans (drop_short s D k (by omega)))
   have hge : (s.size : Int) ≤ (j : Int) := by omega
   clear hq
   go_wp2
   go_ret
   exact ⟨ret_int HN.out.symm, rfl⟩

/-- Within notes the document's way is the machine's. -/
theorem dn_pass : ∀ (n : Nat) (r : List UInt8) (D : Int) (a : UInt8), r.length ≤ n → 1 ≤ D → dn D (a :: r) = bif passN nF (D, a) r == r.length then none else some (passN nF (D, a) r + 2) := by
 intro n
 induction n with
 | zero =>
  intro r D a hn hD
  have : r = [] := List.length_eq_zero_iff.1 (by omega)
  subst this
  rfl
 | succ n ih =>
  intro r D a hn hD
  cases r with
  | nil => rfl
  | cons b r =>
   simp only [List.length_cons] at hn
   have two : ∀ E : Int, 1 ≤ E → (dn E r).map (· + 2) = bif passN nF (E, 0) r + 1 == r.length + 1 then none else some (passN nF (E, 0) r + 1 + 2) := by
    intro E hE
    cases r with
    | nil => rfl
    | cons c r =>
     have e0 : passN nF (E, 0) (c :: r) = passN nF (E, c) r + 1 := by
      simp [passN, nF, eqB]
     rw [ih r E c (by simp at hn; omega) hE, e0]
     simp only [List.length_cons]
     generalize passN nF (E, c) r = p
     by_cases hp : p = r.length
     ·subst hp; simp
     ·have h1 : (p == r.length) = false := by simpa using hp
      have h2 : (p + 1 + 1 == r.length + 1 + 1) = false := by simp; omega
      rw [h1, h2]
      simp
   simp only [dn, List.length_cons]
   cases h1 : (((a.toNat : Int) == 40) && ((b.toNat : Int) == 42))
   ·cases h2 : (((a.toNat : Int) == 42) && ((b.toNat : Int) == 41))
    ·have e0 : passN nF (D, a) (b :: r) = passN nF (D, b) r + 1 := by
      simp [passN, nF, eqB, h1, h2]
     rw [e0]
     simp only [cond_false]
     rw [ih r D b (by omega) hD]
     generalize passN nF (D, b) r = p
     by_cases hp : p = r.length
     ·subst hp; simp
     ·have h1 : (p == r.length) = false := by simpa using hp
      have h2 : (p + 1 == r.length + 1) = false := by simp; omega
      rw [h1, h2]
      simp
    ·simp only [cond_true, cond_false]
     by_cases hD1 : D - 1 = 0
     ·have e0 : passN nF (D, a) (b :: r) = 0 := by
       simp [passN, nF, eqB, h1, h2, hD1]
      rw [e0]
      simp [hD1]
     ·have e0 : passN nF (D, a) (b :: r) = passN nF (D - 1, 0) r + 1 := by
       have : 1 < D := by omega
       simp [passN, nF, eqB, h1, h2, this]
      have h5 : (D - 1 == 0) = false := by simpa using hD1
      rw [e0, h5, cond_false]
      exact two (D - 1) (by omega)
   ·have e0 : passN nF (D, a) (b :: r) = passN nF (D + 1, 0) r + 1 := by
     simp [passN, nF, eqB, h1]
    simp only [cond_true]
    rw [e0]
    exact two (D + 1) (by omega)
theorem dn_note (r : List UInt8) : dn 0 (40 :: 42 :: r) = bif (noteN (40 :: 42 :: r)).1 == 2 then some (noteN (40 :: 42 :: r)).2 else none := by
 have e0 : passN nF (0, 0) (40 :: 42 :: r) = passN nF (1, 0) r + 2 := by simp [passN, nF, eqB]
 have e1 : dn 0 (40 :: 42 :: r) = (dn 1 r).map (· + 2) := by simp [dn]
 unfold noteN
 simp only [e0, e1, List.length_cons]
 cases r with
 | nil => rfl
 | cons c r =>
  have e2 : passN nF (1, 0) (c :: r) = passN nF (1, c) r + 1 := by simp [passN, nF, eqB]
  rw [dn_pass r.length r 1 c (Nat.le_refl _) (by omega), e2]
  simp only [List.length_cons]
  generalize passN nF (1, c) r = p
  by_cases hp : p = r.length
  ·subst hp; simp
  ·have h1 : (p == r.length) = false := by simpa using hp
   have h2 : (p + 1 + 2 == r.length + 1 + 1 + 1) = false := by simp; omega
   rw [h1, h2]
   simp

/-- The end of a text, as the document finds it. -/
def escB (d : UInt8) : Bool := ((d.toNat : Int) == 34) || ((d.toNat : Int) == 92) || ((d.toNat : Int) == 110) || ((d.toNat : Int) == 116)
def dt : List UInt8 → Option Nat
 | [] => none
 | c :: r => bif ((c.toNat : Int) == 34) then some 1 else bif ((c.toNat : Int) == 10) then none
  else bif ((c.toNat : Int) == 92) then (match r with | [] => none | d :: r' => bif escB d then (dt r').map (· + 2) else none)
  else (dt r).map (· + 1)
theorem dt_pass : ∀ (n : Nat) (r : List UInt8), r.length ≤ n → dt r = bif headB (r.drop (passN qF false r)) 34 then some (passN qF false r + 1) else none := by
 intro n
 induction n with
 | zero =>
  intro r hn
  have : r = [] := List.length_eq_zero_iff.1 (by omega)
  subst this
  rfl
 | succ n ih =>
  intro r hn
  cases r with
  | nil => rfl
  | cons c r =>
   simp only [List.length_cons] at hn
   rw [dt.eq_def]
   simp only
   cases h1 : ((c.toNat : Int) == 34)
   ·cases h2 : ((c.toNat : Int) == 10)
    ·cases h3 : ((c.toNat : Int) == 92)
     ·have e0 : passN qF false (c :: r) = passN qF false r + 1 := by simp [passN, qF, eqB, h1, h2, h3]
      rw [e0, ih r (by omega)]
      simp only [cond_false, List.drop_succ_cons]
      cases headB (r.drop (passN qF false r)) 34 <;> rfl
     ·cases r with
      | nil =>
       have e0 : passN qF false [c] = 1 := by simp [passN, qF, eqB, h1, h2, h3]
       rw [e0]; rfl
      | cons d r =>
       simp only [cond_true, cond_false]
       cases h4 : escB d
       ·have e0 : passN qF false (c :: d :: r) = 1 := by
         unfold escB at h4
         simp only [Bool.or_eq_false_iff] at h4
         simp [passN, qF, eqB, h1, h2, h3, h4]
        rw [e0]
        unfold escB at h4
        simp only [Bool.or_eq_false_iff] at h4
        simp [headB, eqB, h4]
       ·have e0 : passN qF false (c :: d :: r) = passN qF false r + 2 := by
         unfold escB at h4
         simp [passN, qF, eqB, h1, h2, h3, h4]
        rw [e0, ih r (by simp at hn; omega)]
        simp only [cond_true, List.drop_succ_cons]
        cases headB (r.drop (passN qF false r)) 34 <;> rfl
    ·have e0 : passN qF false (c :: r) = 0 := by simp [passN, qF, eqB, h1, h2]
     rw [e0]
     simp [headB, eqB, h1]
   ·have e0 : passN qF false (c :: r) = 0 := by simp [passN, qF, eqB, h1]
    rw [e0]
    simp [headB, eqB, h1]
def dtR (s : ByteArray) (k : Nat) : Int := match dt (s.data.toList.drop k) with | some m => ((k + m : Nat) : Int) | none => 0
theorem dtR_end (s : ByteArray) (k : Nat) (h : s.size ≤ k) : dtR s k = 0 := by
 unfold dtR
 rw [List.drop_eq_nil_of_le (by rw [data_len]; exact h)]; rfl
theorem dtR_at (s : ByteArray) (k : Nat) (h : k < s.size) : dtR s k = bif ((s[k].toNat : Int) == 34) then ((k + 1 : Nat) : Int) else bif ((s[k].toNat : Int) == 10) then 0 else bif ((s[k].toNat : Int) == 92) then (if h' : k + 1 < s.size then bif escB s[k + 1] then dtR s (k + 2) else 0 else 0) else dtR s (k + 1) := by
 conv => lhs; unfold dtR
 rw [drop_at s k h, dt.eq_def]
 simp only
 cases h1 : ((s[k].toNat : Int) == 34)
 ·cases h2 : ((s[k].toNat : Int) == 10)
  ·cases h3 : ((s[k].toNat : Int) == 92)
   ·simp only [cond_false]
    unfold dtR
    cases dt (s.data.toList.drop (k + 1)) with
    | none => rfl
    | some m => show ((k + (m + 1) : Nat) : Int) = ((k + 1 + m : Nat) : Int); omega
   ·simp only [cond_false, cond_true]
    by_cases h' : k + 1 < s.size
    ·rw [dif_pos h', drop_at s (k + 1) h']
     simp only
     cases escB s[k + 1]
     ·rfl
     ·simp only [cond_true]
      unfold dtR
      cases dt (s.data.toList.drop (k + 1 + 1)) with
      | none => rfl
      | some m => show ((k + (m + 2) : Nat) : Int) = ((k + 2 + m : Nat) : Int); omega
    ·rw [dif_neg h', List.drop_eq_nil_of_le (by rw [data_len]; omega)]
  ·rfl
 ·rfl

set_option maxHeartbeats 2000000 in
theorem dtext_any (s : ByteArray) (hs : s.size ≤ 1000000) (a : Nat) (ha : a < s.size) (w : World) : Calls Tryz.prog 63 #[.string s, .int .i64 (a : Int)] w fun e w' => e = .returned (.int .i64 (dtR s (a + 1))) ∧ w = w' := by
 obtain ⟨R, hR⟩ : ∃ R, R = dtR s (a + 1) := ⟨_, rfl⟩
 rw [← hR]
 have HR := Lib.hid hR
 clear hR
 go_enter Tryz.func63, Tryz.ntmps63
 go_wp2
 go_loop [5] (fun i => ∃ (k : Nat), k ≤ s.size + 1 ∧ i = .int .i64 k ∧ Hid (R = dtR s k)) (fun i => s.size + 1 - (intOf i).toNat)
 case atStart => exact ⟨a + 1, by omega, by first | rfl | go_num, HR⟩
 case round =>
  obtain ⟨k, hk, rfl, hq⟩ := hrel
  clear HR
  by_cases hlt : k < s.size
  ·have q := dtR_at s k hlt
   have hm : s.size + 1 - (intOf (.int .i64 ((k : Int) + 1))).toNat < s.size + 1 - (intOf (.int .i64 (k : Int))).toNat := by simp [intOf]; omega
   have HM := Lib.hid hm
   clear hm
   cases h1 : ((s[k].toNat : Int) == 34)
   case true =>
    have HN := Lib.hid (hq.out.trans (q.trans (by rw [h1, cond_true])))
    clear q hq
    go_wp2
    go_ret
    exact ⟨ret_int HN.out.symm, rfl⟩
   case false =>
    cases h2 : ((s[k].toNat : Int) == 10)
    case true =>
     have HN : Hid (R = 0) := Lib.hid (hq.out.trans (q.trans (by rw [h1, h2]; rfl)))
     clear q hq
     go_wp2
     go_ret
     exact ⟨ret_int HN.out.symm, rfl⟩
    case false =>
     cases h3 : ((s[k].toNat : Int) == 92)
     case false =>
      have HN : Hid (R = dtR s (k + 1)) := Lib.hid (hq.out.trans (q.trans (by rw [h1, h2, h3]; rfl)))
      clear q hq
      go_wp2
      go_round
      case rel => exact ⟨k + 1, by omega, by first | rfl | go_num, HN⟩
      case measure => exact HM.out
     case true =>
      obtain ⟨j, hj⟩ : ∃ j : Nat, (k : Int) + 1 = (j : Int) := ⟨k + 1, by omega⟩
      have hjk : j = k + 1 := by omega
      by_cases hjlt : j < s.size
      ·have ej : ∀ h, s[k + 1]'h = s[j] := fun h => by simp [hjk]
       have q' : R = bif escB s[j] then dtR s (k + 2) else 0 := hq.out.trans (q.trans (by rw [h1, h2, h3]; simp only [cond_true, cond_false]; rw [dif_pos (by omega), ej]))
       have hE : escB s[j] = (((s[j].toNat : Int) == 34) || ((s[j].toNat : Int) == 92) || ((s[j].toNat : Int) == 110) || ((s[j].toNat : Int) == 116)) := rfl
       have hnj : ¬ (s.size : Int) ≤ (j : Int) := by omega
       have HJ := Lib.hid hjk
       have hX : (j : Int) + 1 = ((k + 2 : Nat) : Int) := by omega
       have HX := Lib.hid hX
       have hm2 : s.size + 1 - (intOf (.int .i64 ((k + 2 : Nat) : Int))).toNat < s.size + 1 - (intOf (.int .i64 (k : Int))).toNat := by simp [intOf]; omega
       have HM2 := Lib.hid hm2
       clear hjk hX hm2 q hq ej
       cases g1 : ((s[j].toNat : Int) == 34)
       case true =>
        have m1 : ((s[j].toNat : Int) != 34) = false := by simp [bne, g1]
        have hE' : escB s[j] = true := by rw [hE, g1]; simp
        rw [hE'] at q'
        have HN : Hid (R = dtR s (k + 2)) := Lib.hid q'
        clear q' hE hE'
        go_wp2
        go_round
        case rel => exact ⟨k + 2, by have := HJ.out; omega, by rw [HX.out], HN⟩
        case measure => rw [HX.out]; exact HM2.out
       case false =>
        cases g2 : ((s[j].toNat : Int) == 92)
        case true =>
         have m1 : ((s[j].toNat : Int) != 34) = true := by simp [bne, g1]
         have m2 : ((s[j].toNat : Int) != 92) = false := by simp [bne, g2]
         have hE' : escB s[j] = true := by rw [hE, g1, g2]; simp
         rw [hE'] at q'
         have HN : Hid (R = dtR s (k + 2)) := Lib.hid q'
         clear q' hE hE'
         go_wp2
         go_round
         case rel => exact ⟨k + 2, by have := HJ.out; omega, by rw [HX.out], HN⟩
         case measure => rw [HX.out]; exact HM2.out
        case false =>
         cases g3 : ((s[j].toNat : Int) == 110)
         case true =>
          have m1 : ((s[j].toNat : Int) != 34) = true := by simp [bne, g1]
          have m2 : ((s[j].toNat : Int) != 92) = true := by simp [bne, g2]
          have m3 : ((s[j].toNat : Int) != 110) = false := by simp [bne, g3]
          have hE' : escB s[j] = true := by rw [hE, g1, g2, g3]; simp
          rw [hE'] at q'
          have HN : Hid (R = dtR s (k + 2)) := Lib.hid q'
          clear q' hE hE'
          go_wp2
          go_round
          case rel => exact ⟨k + 2, by have := HJ.out; omega, by rw [HX.out], HN⟩
          case measure => rw [HX.out]; exact HM2.out
         case false =>
          cases g4 : ((s[j].toNat : Int) == 116)
          case true =>
           have m1 : ((s[j].toNat : Int) != 34) = true := by simp [bne, g1]
           have m2 : ((s[j].toNat : Int) != 92) = true := by simp [bne, g2]
           have m3 : ((s[j].toNat : Int) != 110) = true := by simp [bne, g3]
           have m4 : ((s[j].toNat : Int) != 116) = false := by simp [bne, g4]
           have hE' : escB s[j] = true := by rw [hE, g1, g2, g3, g4]; simp
           rw [hE'] at q'
           have HN : Hid (R = dtR s (k + 2)) := Lib.hid q'
           clear q' hE hE'
           go_wp2
           go_round
           case rel => exact ⟨k + 2, by have := HJ.out; omega, by rw [HX.out], HN⟩
           case measure => rw [HX.out]; exact HM2.out
          case false =>
           have m1 : ((s[j].toNat : Int) != 34) = true := by simp [bne, g1]
           have m2 : ((s[j].toNat : Int) != 92) = true := by simp [bne, g2]
           have m3 : ((s[j].toNat : Int) != 110) = true := by simp [bne, g3]
           have m4 : ((s[j].toNat : Int) != 116) = true := by simp [bne, g4]
           have hE' : escB s[j] = false := by rw [hE, g1, g2, g3, g4]; simp
           rw [hE'] at q'
           have HN : Hid (R = 0) := Lib.hid q'
           clear q' hE hE'
           go_wp2
           go_ret
           exact ⟨ret_int HN.out.symm, rfl⟩
      ·have HN : Hid (R = 0) := Lib.hid (hq.out.trans (q.trans (by rw [h1, h2, h3]; simp only [cond_true, cond_false]; rw [dif_neg (by omega)])))
       have hnj : (s.size : Int) ≤ (j : Int) := by omega
       clear q hq hjk
       go_wp2
       go_ret
       exact ⟨ret_int HN.out.symm, rfl⟩
  ·have HN := Lib.hid (hq.out.trans (dtR_end s k (by omega)))
   have hge : ¬ (k : Int) < (s.size : Int) := by omega
   clear hq
   go_wp2
   go_ret
   exact ⟨ret_int HN.out.symm, rfl⟩
end Go.Proofs.YtkjgkchdkeggoaaGreatDoor
