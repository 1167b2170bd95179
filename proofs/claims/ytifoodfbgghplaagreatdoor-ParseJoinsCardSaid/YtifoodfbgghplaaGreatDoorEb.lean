/-
  The plain parser's branches are right, and each name in a text is one branch's, once.; How large the plain parser's branches are: a branch, all its parts and all their names are fewer than three for each token.; What File says of two texts with a semicolon between them.; Are two branches the same: the document's way.; A branch moved on: the law's moved.; ParseJoins: the law's own walk.; The law's walk, as the row's frame calls it.
-/
import Derived.Test.YtifoodfbgghplaaGreatDoorKeep
import Derived.Test.YtifoodfbgghplaaGreatDoorEa
import Derived.Test.YtifoodfbgghplaaGreatDoorLaid
namespace Go.Proofs.YtifoodfbgghplaaGreatDoor
open Go.RowKit
set_option maxRecDepth 20000
set_option linter.unusedVariables false
set_option linter.unusedSimpArgs false

def Pb.fr : Pb → Int | .mk _ _ f _ _ _ => f
def Pb.to : Pb → Int | .mk _ _ _ t _ _ => t
mutual
/-- How often a branch has a name. -/
def Pb.cnt (x : Int) : Pb → Nat
 | .mk _ _ _ _ ns ks => ns.count x + cntL x ks
def cntL (x : Int) : List Pb → Nat
 | [] => 0
 | b :: r => b.cnt x + cntL x r
end
mutual
/-- A branch is right, and all of its parts have kinds. -/
def Pb.Rt : Pb → Prop
 | .mk k _ f t ns ks => 0 < k ∧ 0 ≤ f ∧ f ≤ t ∧ (∀ n ∈ ns, f ≤ n ∧ n < t) ∧ ChainP f t ks
def ChainP (f t : Int) : List Pb → Prop
 | [] => f ≤ t
 | b :: r => b.Rt ∧ f ≤ b.fr ∧ ChainP b.to t r
end
theorem cntL_append (x : Int) (a b : List Pb) : cntL x (a ++ b) = cntL x a + cntL x b := by
 induction a with
 | nil => simp [cntL]
 | cons y r ih => simp [cntL, ih]; omega
theorem Pb.Rt.le {b : Pb} (h : b.Rt) : 0 ≤ b.fr ∧ b.fr ≤ b.to := by
 cases b; simp only [Pb.Rt] at h; exact ⟨h.2.1, h.2.2.1⟩
theorem ChainP.le {f t : Int} : ∀ {l : List Pb}, ChainP f t l → f ≤ t := by
 intro l
 induction l generalizing f with
 | nil => intro h; exact h
 | cons b r ih => intro h; simp only [ChainP] at h; have := ih h.2.2; have := h.1.le; omega
theorem ChainP.low {f f' t : Int} (hf : f' ≤ f) : ∀ {l : List Pb}, ChainP f t l → ChainP f' t l := by
 intro l h
 cases l with
 | nil => simp only [ChainP] at h ⊢; omega
 | cons b r => simp only [ChainP] at h ⊢; exact ⟨h.1, by omega, h.2.2⟩
theorem ChainP.cat {m t : Int} : ∀ {f : Int} {l r : List Pb}, ChainP f m l → ChainP m t r → ChainP f t (l ++ r) := by
 intro f l
 induction l generalizing f with
 | nil => intro r h1 h2; simp only [ChainP] at h1; exact h2.low h1
 | cons b l ih => intro r h1 h2; simp only [ChainP, List.cons_append] at h1 ⊢; exact ⟨h1.1, h1.2.1, ih h1.2.2 h2⟩
theorem ChainP.up {f t t' : Int} {l : List Pb} (h : ChainP f t l) (ht : t ≤ t') : ChainP f t' l := by
 have := ChainP.cat (r := []) h (by simpa only [ChainP] using ht)
 simpa using this

/-- Is token n a name? -/
def Src.nm (S : Src) (n : Nat) : Bool := S.kd n == 6 || S.kd n == 7 || S.kd n == 9
/-- From n on up to m each name is counted, once; a * may be left out. -/
structure Cov (S : Src) (n m : Nat) (c : Int → Nat) : Prop where
 le : n ≤ m
 one : ∀ x, c x ≤ 1
 inn : ∀ x, 0 < c x → (n : Int) ≤ x ∧ x < (m : Int)
 nm : ∀ x : Nat, 0 < c (x : Int) → S.nm x = true
 all : ∀ x : Nat, n ≤ x → x < m → S.nm x = true → S.is x [42] = false → 0 < c (x : Int)
abbrev Skip (S : Src) (n m : Nat) : Prop := Cov S n m fun _ => 0
section
variable {S : Src}
theorem Cov.ext {n m : Nat} {c d : Int → Nat} (h : Cov S n m c) (e : ∀ x, d x = c x) : Cov S n m d := by
 have : d = c := funext e
 subst this; exact h
theorem Cov.add {n m k : Nat} {c d : Int → Nat} (h : Cov S n m c) (g : Cov S m k d) : Cov S n k fun x => c x + d x where
 le := Nat.le_trans h.le g.le
 one x := by
  rcases Nat.eq_zero_or_pos (c x) with hc | hc
  ·have := g.one x; omega
  ·rcases Nat.eq_zero_or_pos (d x) with hd | hd
   ·have := h.one x; omega
   ·have := h.inn x hc; have := g.inn x hd; omega
 inn x hx := by
  have h1 := h.le; have h2 := g.le
  rcases Nat.eq_zero_or_pos (c x) with hc | hc
  ·have := g.inn x (by omega); omega
  ·have := h.inn x hc; omega
 nm x hx := by
  rcases Nat.eq_zero_or_pos (c x) with hc | hc
  ·exact g.nm x (by omega)
  ·exact h.nm x hc
 all x h1 h2 h3 h4 := by
  rcases Nat.lt_or_ge x m with hx | hx
  ·have := h.all x h1 hx h3 h4; omega
  ·have := g.all x hx h2 h3 h4; omega
theorem Skip.nil (n : Nat) : Skip S n n := ⟨Nat.le_refl _, fun _ => by omega, fun _ h => by omega, fun _ h => by omega, fun x h1 h2 => by omega⟩
theorem skip_one {n : Nat} (h : S.nm n = false ∨ S.is n [42] = true) : Skip S n (n + 1) :=
 ⟨by omega, fun _ => by omega, fun _ h => by omega, fun _ h => by omega, fun x h1 h2 h3 h4 => by
  have : x = n := by omega
  subst this
  rcases h with h | h
  ·rw [h3] at h; cases h
  ·rw [h4] at h; cases h⟩
theorem Skip.cat {n m k : Nat} (h : Skip S n m) (g : Skip S m k) : Skip S n k := (h.add g).ext fun _ => rfl
theorem Cov.skip {n m k : Nat} {c : Int → Nat} (h : Cov S n m c) (g : Skip S m k) : Cov S n k c := (h.add g).ext fun _ => rfl
theorem Skip.then {n m k : Nat} {c : Int → Nat} (g : Skip S n m) (h : Cov S m k c) : Cov S n k c := (g.add h).ext fun x => by simp

def cnN (l : List Nat) (x : Int) : Nat := (l.map fun y : Nat => (y : Int)).count x
theorem cnN_nil (x : Int) : cnN [] x = 0 := rfl
theorem cnN_append (a b : List Nat) (x : Int) : cnN (a ++ b) x = cnN a x + cnN b x := by simp [cnN, List.count_append]
theorem name_one {n : Nat} (h : S.nm n = true) : Cov S n (n + 1) (cnN [n]) := by
 have e : ∀ x : Int, cnN [n] x = if x = n then 1 else 0 := fun x => by
  by_cases hx : x = (n : Int)
  ·subst hx; simp [cnN]
  ·simp only [cnN, List.map_cons, List.map_nil, hx, if_false]
   rw [List.count_cons_of_ne (fun e => hx e.symm)]; rfl
 refine ⟨by omega, fun x => by rw [e]; split <;> omega, fun x hx => ?_, fun x hx => ?_, fun x h1 h2 h3 _ => ?_⟩
 ·rw [e] at hx; split at hx <;> omega
 ·rw [e] at hx
  split at hx
  ·have : x = n := by omega
   subst this; exact h
  ·omega
 ·have : x = n := by omega
  subst this
  rw [e, if_pos rfl]; omega

/-- What a call comes to, if it comes to something. -/
def Ret {α : Type} (o : Out α) (P : α → Nat → Prop) : Prop := ∀ x m, o = .ok x m → P x m
theorem ret_bind {α β : Type} {o : Out α} {f : α → Nat → Out β} {P : α → Nat → Prop} {Q : β → Nat → Prop} (h : Ret o P) (hf : ∀ x m, P x m → Ret (f x m) Q) : Ret (o.bind f) Q := by
 intro x m e
 cases o with
 | ok a n => exact hf a n (h a n rfl) x m e
 | form n => cases e
 | deep n => cases e
 | dry => cases e
theorem ret_ok {α : Type} {x : α} {m : Nat} {P : α → Nat → Prop} (h : P x m) : Ret (.ok x m) P := by
 intro y k e
 injection e with e1 e2
 subst e1 e2; exact h
theorem ret_form {α : Type} {n : Nat} {P : α → Nat → Prop} : Ret (.form n : Out α) P := fun _ _ e => by cases e
theorem ret_deep {α : Type} {n : Nat} {P : α → Nat → Prop} : Ret (.deep n : Out α) P := fun _ _ e => by cases e
theorem ret_dry {α : Type} {P : α → Nat → Prop} : Ret (.dry : Out α) P := fun _ _ e => by cases e
theorem ret_if {α : Type} {c : Bool} {a b : Out α} {P : α → Nat → Prop} (ha : c = true → Ret a P) (hb : c = false → Ret b P) : Ret (bif c then a else b) P := by
 cases c
 ·exact hb rfl
 ·exact ha rfl
theorem Ret.mono {α : Type} {o : Out α} {P Q : α → Nat → Prop} (h : Ret o P) (hq : ∀ x m, P x m → Q x m) : Ret o Q := fun x m e => hq x m (h x m e)

/-- A branch, branches, names from n on up to m. -/
structure QB (S : Src) (n : Nat) (b : Pb) (m : Nat) : Prop where
 rt : b.Rt
 lo : (n : Int) ≤ b.fr
 hi : b.to ≤ (m : Int)
 cov : Cov S n m fun x => b.cnt x
structure QL (S : Src) (n : Nat) (l : List Pb) (m : Nat) : Prop where
 ch : ChainP n m l
 cov : Cov S n m fun x => cntL x l
structure QN (S : Src) (n : Nat) (l : List Nat) (m : Nat) : Prop where
 inn : ∀ x ∈ l, n ≤ x ∧ x < m
 cov : Cov S n m (cnN l)
theorem QL.nil (n : Nat) : QL S n [] n := ⟨by simp [ChainP], (Skip.nil n).ext fun _ => rfl⟩
theorem QL.skip {n m k : Nat} {l : List Pb} (h : QL S n l m) (g : Skip S m k) : QL S n l k := ⟨h.ch.up (by have := g.le; omega), h.cov.skip g⟩
theorem Skip.ql {n m k : Nat} {l : List Pb} (g : Skip S n m) (h : QL S m l k) : QL S n l k := ⟨h.ch.low (by have := g.le; omega), g.then h.cov⟩
theorem QL.cat {n m k : Nat} {l r : List Pb} (h : QL S n l m) (g : QL S m r k) : QL S n (l ++ r) k := ⟨h.ch.cat g.ch, (h.cov.add g.cov).ext fun x => cntL_append x l r⟩
theorem QB.ql {n m : Nat} {b : Pb} (h : QB S n b m) : QL S n [b] m := ⟨by simp only [ChainP]; exact ⟨h.rt, h.lo, h.hi⟩, h.cov.ext fun x => by simp [cntL]⟩
theorem QL.one {n m : Nat} {b : Pb} (h : QL S n [b] m) : QB S n b m := by
 have hc := h.ch
 simp only [ChainP] at hc
 exact ⟨hc.1, hc.2.1, hc.2.2, h.cov.ext fun x => by simp [cntL]⟩
theorem QB.skip {n m k : Nat} {b : Pb} (h : QB S n b m) (g : Skip S m k) : QB S n b k := (h.ql.skip g).one
theorem Skip.qb {n m k : Nat} {b : Pb} (g : Skip S n m) (h : QB S m b k) : QB S n b k := (g.ql h.ql).one
theorem QN.nil (n : Nat) : QN S n [] n := ⟨fun x hx => (by cases hx), (Skip.nil n).ext fun _ => rfl⟩
theorem QN.skip {n m k : Nat} {l : List Nat} (h : QN S n l m) (g : Skip S m k) : QN S n l k := ⟨fun x hx => by have := h.inn x hx; have := g.le; omega, h.cov.skip g⟩
theorem Skip.qn {n m k : Nat} {l : List Nat} (g : Skip S n m) (h : QN S m l k) : QN S n l k := ⟨fun x hx => by have := h.inn x hx; have := g.le; omega, g.then h.cov⟩
theorem QN.cat {n m k : Nat} {l r : List Nat} (h : QN S n l m) (g : QN S m r k) : QN S n (l ++ r) k :=
 ⟨fun x hx => by
  have h1 := h.cov.le; have h2 := g.cov.le
  rcases List.mem_append.1 hx with hx | hx
  ·have := h.inn x hx; omega
  ·have := g.inn x hx; omega, (h.cov.add g.cov).ext fun x => cnN_append l r x⟩
/-- A branch of names and parts, in whichever order these stand. -/
theorem node_mix {k : Int} {n m : Nat} {ns : List Nat} {l : List Pb} {c : Int → Nat} (hk : 0 < k) (hn : ∀ x ∈ ns, n ≤ x ∧ x < m) (hl : ChainP n m l) (hc : Cov S n m c) (he : ∀ x, cnN ns x + cntL x l = c x) : QB S n (node k n m ns l) m := by
 refine ⟨?_, ?_, ?_, hc.ext fun x => ?_⟩
 ·have := hc.le
  simp only [node, Pb.Rt]
  refine ⟨hk, by omega, by omega, fun x hx => ?_, hl⟩
  obtain ⟨y, hy, rfl⟩ := List.mem_map.1 hx
  have := hn y hy; omega
 ·simp [node, Pb.fr]
 ·simp [node, Pb.to]
 ·simp only [node, Pb.cnt]; exact he x
theorem node_ks {k : Int} {n m : Nat} {l : List Pb} (hk : 0 < k) (h : QL S n l m) : QB S n (node k n m [] l) m :=
 node_mix hk (fun x hx => by cases hx) h.ch h.cov (fun x => by simp [cnN_nil])
theorem node_ns {k : Int} {n m : Nat} {ns : List Nat} (hk : 0 < k) (h : QN S n ns m) : QB S n (node k n m ns []) m :=
 node_mix hk h.inn (by simp only [ChainP]; have := h.cov.le; omega) h.cov (fun x => by simp [cntL])
theorem node_nk {k : Int} {n j m : Nat} {ns : List Nat} {l : List Pb} (hk : 0 < k) (h : QN S n ns j) (g : QL S j l m) : QB S n (node k n m ns l) m :=
 node_mix hk (fun x hx => by have := h.inn x hx; have := g.cov.le; omega) (g.ch.low (by have := h.cov.le; omega)) (h.cov.add g.cov) (fun x => rfl)
theorem node_kn {k : Int} {n j m : Nat} {ns : List Nat} {l : List Pb} (hk : 0 < k) (g : QL S n l j) (h : QN S j ns m) : QB S n (node k n m ns l) m :=
 node_mix hk (fun x hx => by have := h.inn x hx; have := g.cov.le; omega) (g.ch.up (by have := h.cov.le; omega)) (g.cov.add h.cov) (fun x => Nat.add_comm _ _)
theorem node_knk {k : Int} {n i j m : Nat} {ns : List Nat} {l r : List Pb} (hk : 0 < k) (g : QL S n l i) (h : QN S i ns j) (g2 : QL S j r m) : QB S n (node k n m ns (l ++ r)) m := by
 have h1 := g.cov.le; have h2 := h.cov.le; have h3 := g2.cov.le
 exact node_mix hk (fun x hx => by have := h.inn x hx; omega) ((g.ch.up (by omega)).cat (g2.ch)) ((g.cov.add h.cov).add g2.cov) (fun x => by rw [cntL_append]; omega)
theorem QB.marked {n m : Nat} {b : Pb} {k : Int} (h : QB S n b m) : QB S n (marked k b) m := by
 obtain ⟨h1, h2, h3, h4⟩ := h
 cases b
 exact ⟨by simpa only [Go.Proofs.YtifoodfbgghplaaGreatDoor.marked, Pb.Rt] using h1, h2, h3, h4.ext fun x => by simp only [Go.Proofs.YtifoodfbgghplaaGreatDoor.marked, Pb.cnt]⟩
theorem oneOr_ks {k : Int} {n m : Nat} {l : List Pb} (hk : 0 < k) (h : QL S n l m) : QB S n (oneOr l k n m []) m := by
 unfold oneOr
 split
 ·exact h.one
 ·exact node_ks hk h
end

/-- Of words and marks: no name is spelled so, but *. -/
def noName (t : List UInt8) : Bool := t == [42] || !((tokN t).1 == 6 || (tokN t).1 == 7 || (tokN t).1 == 9)
theorem pick_sub (ask : Int → Bool) (l : List Tok) : ∀ t ∈ pickT ask l, t ∈ l := by
 induction l with
 | nil => intro t h; exact h
 | cons x r ih =>
  intro t h
  unfold pickT at h
  cases hx : ask x.k <;> rw [hx] at h
  ·exact List.mem_cons_of_mem _ (ih t h)
  ·rcases List.mem_cons.1 h with rfl | h
   ·exact List.mem_cons_self
   ·exact List.mem_cons_of_mem _ (ih t h)
theorem kd_tok {S : Src} (T : S.ts = wordsT S.s) (n : Nat) : S.kd n = (tokN (S.tx n).data.toList).1 := by
 unfold Src.kd Src.tx
 cases h : S.ts[n]? with
 | none => rfl
 | some t =>
  have hm : t ∈ scanT S.s := by
   have : t ∈ S.ts := List.mem_of_getElem? h
   rw [T] at this
   unfold wordsT at this
   exact pick_sub _ _ _ this
  obtain ⟨h1, h2⟩ := restT_mem S.s 0 (by omega) t hm
  simp only
  by_cases hlt : t.a < S.s.size
  ·have e := tokAt_in S.s t.a hlt
   rw [← h2] at e
   have hne : S.s.data.toList.drop t.a ≠ [] := by rw [drop_at S.s t.a hlt]; simp
   have ha := tok_again (S.s.data.toList.drop t.a) hne
   have ek : t.k = (tokN (S.s.data.toList.drop t.a)).1 := congrArg Tok.k e
   have ee : t.e = t.a + (tokN (S.s.data.toList.drop t.a)).2 := congrArg Tok.e e
   rw [ee, extract_drop, ha, ek]
  ·have : t.a = S.s.size := by omega
   rw [this, tokAt_end] at h2
   have hk : t.k = 0 := congrArg Tok.k h2
   have he : t.e = S.s.size := congrArg Tok.e h2
   rw [hk, he, this]
   have : (S.s.extract S.s.size S.s.size).data.toList = [] := by
    apply List.eq_nil_of_length_eq_zero
    simp
   rw [this]; rfl
section
variable {S : Src} (T : S.ts = wordsT S.s)
include T
theorem skip_is {t : List UInt8} (ht : noName t = true) {n : Nat} (h : S.is n t = true) : Skip S n (n + 1) := by
 have e : (S.tx n).data.toList = t := by unfold Src.is at h; simpa using h
 have hk := kd_tok T n
 rw [e] at hk
 unfold noName at ht
 refine skip_one ?_
 rcases Bool.or_eq_true_iff.1 ht with h1 | h1
 ·right; rw [beq_iff_eq.1 h1] at h; exact h
 ·left; unfold Src.nm; rw [hk]; simpa using h1
omit T in
theorem skip_kd {n : Nat} {k : Int} (h : (S.kd n == k) = true) (hk : (k == 6 || k == 7 || k == 9) = false) : Skip S n (n + 1) := by
 refine skip_one (.inl ?_)
 unfold Src.nm
 rw [beq_iff_eq.1 h]; exact hk
theorem need_rt {t : List UInt8} (ht : noName t = true) (n : Nat) : Ret (S.need t n) fun _ m => Skip S n m := by
 unfold Src.need
 exact ret_if (fun h => ret_ok (skip_is T ht h)) (fun _ => ret_form)
omit T in
theorem take_nm {ks : List Int} (hk : ∀ k ∈ ks, (k == 6 || k == 7 || k == 9) = true) (n : Nat) : Ret (S.take ks n) fun x m => QN S n [x] m := by
 unfold Src.take
 refine ret_if (fun h => ret_ok ⟨fun x hx => ?_, name_one ?_⟩) (fun _ => ret_form)
 ·have : x = n := by simpa using hx
  omega
 ·exact hk _ (by simpa using h)
omit T in
theorem take_sk (n : Nat) : Ret (S.take [8] n) fun _ m => Skip S n m := by
 unfold Src.take
 refine ret_if (fun h => ret_ok (skip_kd (k := 8) ?_ rfl)) (fun _ => ret_form)
 simpa using h
theorem pathL_rt {ks : List Int} (hk : ∀ k ∈ ks, (k == 6 || k == 7 || k == 9) = true) (p : Nat) : ∀ (f : Nat) (acc : List Nat) (n : Nat), QN S p acc n → Ret (S.pathL ks f acc n) fun l m => QN S p l m := by
 intro f
 induction f with
 | zero => intro acc n _; exact ret_dry
 | succ f ih =>
  intro acc n h
  unfold Src.pathL
  refine ret_if (fun hc => ?_) (fun _ => ret_ok h)
  simp only [Bool.and_eq_true] at hc
  have hs := skip_is T (t := [46]) (by kernel_rfl) hc.2
  exact ret_bind (take_nm hk (n + 1)) (fun x m hx => ih _ _ (h.cat (hs.qn hx)))
theorem path_rt {ks : List Int} (hk : ∀ k ∈ ks, (k == 6 || k == 7 || k == 9) = true) (n : Nat) : Ret (S.path ks n) fun l m => QN S n l m := by
 unfold Src.path
 exact ret_bind (take_nm hk n) (fun x m hx => pathL_rt T hk n _ _ _ hx)
theorem typePath_rt (n : Nat) : Ret (S.typePath n) fun l m => QN S n l m := by
 unfold Src.typePath
 exact ret_bind (path_rt T (by decide) n) (fun p m hp => ret_if (fun _ => ret_ok hp) (fun _ => ret_form))
theorem value_rt (n : Nat) : Ret (S.value n) fun x m => QN S n [x] m := by
 unfold Src.value
 refine ret_if (fun h => ?_) (fun _ => take_nm (by decide) n)
 exact (take_nm (by decide) (n + 1)).mono fun x m hx => (skip_is T (by kernel_rfl) h).qn hx
theorem rowL_rt {mark : List UInt8} (hm : noName mark = true) {read : Nat → Out Pb} (hr : ∀ k, Ret (read k) fun b m => QB S k b m) (p : Nat) : ∀ (f : Nat) (acc : List Pb) (n : Nat), QL S p acc n → Ret (rowL S mark read f acc n) fun l m => QL S p l m := by
 intro f
 induction f with
 | zero => intro acc n _; exact ret_dry
 | succ f ih =>
  intro acc n h
  unfold rowL
  refine ret_if (fun hc => ?_) (fun _ => ret_ok h)
  exact ret_bind (hr (n + 1)) (fun b m hb => ih _ _ (h.cat ((skip_is T hm hc).ql hb.ql)))
theorem rowO_rt (F : Nat) {mark : List UInt8} (hm : noName mark = true) {read : Nat → Out Pb} (hr : ∀ k, Ret (read k) fun b m => QB S k b m) (n : Nat) : Ret (rowO S F mark read n) fun l m => QL S n l m := by
 unfold rowO
 exact ret_bind (hr n) (fun b m hb => rowL_rt T hm hr n F [b] m hb.ql)
theorem colon_rt (n : Nat) (h : ((S.colon n).1 == 0) = false) : Skip S n (n + 1) := by
 unfold Src.colon at h
 cases h1 : S.is n [58]
 ·cases h2 : S.is n [58, 62]
  ·rw [h1, h2] at h; cases h
  ·exact skip_is T (by kernel_rfl) h2
 ·exact skip_is T (by kernel_rfl) h1
section
variable {F : Nat} {rec : Nt → Nat → Nat → Out Pb} {d : Nat} (hrec : ∀ nt k, S.may nt k → Ret (rec nt d k) fun b m => QB S k b m)
include hrec
theorem atomicTyO_rt (n : Nat) : Ret (atomicTyO S F rec d n) fun b m => QB S n b m := by
 unfold atomicTyO
 refine ret_if (fun h => ret_ok (node_ks (by decide) ((QL.nil n).skip (skip_kd h rfl)))) (fun _ => ret_if (fun h => ?_) (fun _ => ?_))
 ·refine ret_bind (rowO_rt T F (by kernel_rfl) (fun k => hrec .ty k trivial) (n + 1)) (fun l m hl => ?_)
  refine ret_bind (need_rt T (by kernel_rfl) m) (fun _ m2 h2 => ?_)
  have hl2 := (skip_is T (by kernel_rfl) h).ql (hl.skip h2)
  unfold pick1
  split
  ·exact ret_ok hl2.one
  ·exact ret_bind (typePath_rt T m2) (fun p m3 hp => ret_ok (node_kn (by decide) hl2 hp))
 ·exact ret_bind (typePath_rt T n) (fun p m3 hp => ret_ok (node_ns (by decide) hp))
theorem appliedL_rt (n : Nat) : ∀ (f : Nat) (b : Pb) (m : Nat), QB S n b m → Ret (appliedL S n f b m) fun b m => QB S n b m := by
 have _ := hrec
 intro f
 induction f with
 | zero => intro b m _; exact ret_dry
 | succ f ih =>
  intro b m h
  unfold appliedL
  exact ret_if (fun _ => ret_bind (typePath_rt T m) (fun p m1 hp => ih _ _ (node_kn (by decide) h.ql hp))) (fun _ => ret_ok h)
theorem appliedO_rt (n : Nat) : Ret (appliedO S F rec d n) fun b m => QB S n b m := by
 unfold appliedO
 exact ret_bind (atomicTyO_rt T hrec n) (fun b m hb => appliedL_rt T hrec n F b m hb)
theorem productO_rt (n : Nat) : Ret (productO S F rec d n) fun b m => QB S n b m := by
 unfold productO
 exact ret_bind (rowO_rt T F (by kernel_rfl) (appliedO_rt T hrec) n) (fun l m hl => ret_ok (oneOr_ks (by decide) hl))
theorem tyO_rt (n : Nat) : Ret (tyO S F rec d n) fun b m => QB S n b m := by
 unfold tyO
 refine ret_bind (productO_rt T hrec n) (fun b m hb => ret_if (fun h => ?_) (fun _ => ret_ok hb))
 exact ret_bind (hrec .ty (m + 1) trivial) (fun c m2 hc => ret_ok (node_ks (by decide) (hb.ql.cat ((skip_is T (by kernel_rfl) h).ql hc.ql))))
omit hrec in
theorem tupleO_rt {fr n : Nat} (hs : Skip S fr n) {member : Nat → Out Pb} (hm : ∀ k, Ret (member k) fun b m => QB S k b m) : Ret (tupleO S F fr member n) fun b m => QB S fr b m := by
 unfold tupleO
 refine ret_if (fun h => ret_ok (node_ks (by decide) ((QL.nil fr).skip (hs.cat (skip_is T (by kernel_rfl) h))))) (fun _ => ?_)
 refine ret_bind (rowO_rt T F (by kernel_rfl) hm n) (fun l m hl => ?_)
 exact ret_bind (need_rt T (by kernel_rfl) m) (fun _ m2 h2 => ret_ok (oneOr_ks (by decide) (hs.ql (hl.skip h2))))
omit hrec in
theorem plainO_rt {named : Int} (hk : 0 < named) {member : Nat → Out Pb} (hm : ∀ k, Ret (member k) fun b m => QB S k b m) (n : Nat) : Ret (plainO S F named member n) fun b m => QB S n b m := by
 unfold plainO
 refine ret_if (fun h => ret_ok (node_ks (by decide) ((QL.nil n).skip (skip_kd h rfl)))) (fun _ => ret_if (fun h => ret_ok (node_ks (by decide) ((QL.nil n).skip (skip_kd h rfl)))) (fun _ => ret_if (fun h => ?_) (fun _ => ?_)))
 ·exact tupleO_rt T (skip_is T (by kernel_rfl) h) hm
 ·exact ret_bind (value_rt T n) (fun x m hx => ret_ok (node_ns hk hx))
theorem atomicPatO_rt (n : Nat) : Ret (atomicPatO S F rec d n) fun b m => QB S n b m := by
 unfold atomicPatO
 refine ret_if (fun h => ret_ok (node_ks (by decide) ((QL.nil n).skip (skip_is T (by kernel_rfl) h)))) (fun _ => ret_if (fun _ => ?_) (fun _ => plainO_rt T (by decide) (fun k => hrec .pat k trivial) n))
 exact ret_bind (path_rt T (by decide) n) (fun p m hp => ret_ok (node_ns (by decide) hp))
theorem patO_rt (n : Nat) : Ret (patO S F rec d n) fun b m => QB S n b m := by
 unfold patO
 refine ret_if (fun h => ?_) (fun _ => ret_if (fun _ => ?_) (fun _ => atomicPatO_rt T hrec n))
 ·simp only [Bool.and_eq_true, beq_iff_eq] at h
  have h1 : QN S n [n] (n + 1) := ⟨fun x hx => by have : x = n := (by simpa using hx); omega, name_one (by unfold Src.nm; rw [h.1]; rfl)⟩
  exact ret_bind (hrec .pat (n + 2) trivial) (fun b m hb => ret_ok (node_nk (by decide) h1 ((skip_is T (by kernel_rfl) h.2).ql hb.ql)))
 ·refine ret_bind (path_rt T (by decide) n) (fun p m hp => ret_if (fun _ => ?_) (fun _ => ret_ok (node_ns (by decide) hp)))
  exact ret_bind (atomicPatO_rt T hrec m) (fun b m2 hb => ret_ok (node_nk (by decide) hp hb.ql))
theorem decsL_rt (a p : Nat) : ∀ (f : Nat) (acc : List Pb) (n : Nat), QL S p acc n → Ret (decsL S rec d a f acc n) fun l m => QL S p l m := by
 intro f
 induction f with
 | zero => intro acc n _; exact ret_dry
 | succ f ih =>
  intro acc n h
  unfold decsL
  refine ret_if (fun hc => ih _ _ (h.skip (skip_is T (by kernel_rfl) hc))) (fun _ => ret_if (fun hd => ?_) (fun _ => ret_ok h))
  exact ret_bind (hrec (.dec a) n hd) (fun b m hb => ih _ _ (h.cat hb.ql))
theorem decsO_rt (a n : Nat) : Ret (decsO S F rec d a n) fun l m => QL S n l m := decsL_rt T hrec a n F [] n (QL.nil n)
theorem withinO_rt (a n : Nat) : Ret (withinO S F rec d a n) fun b m => QB S n b m := by
 unfold withinO
 exact ret_bind (decsO_rt T hrec a n) (fun l m hl => ret_ok (node_ks (by decide) hl))
theorem atomO_rt (n : Nat) : Ret (atomO S F rec d n) fun b m => QB S n b m := by
 unfold atomO
 refine ret_if (fun _ => ?_) (fun _ => ret_if (fun h => ?_) (fun _ => plainO_rt T (by decide) (fun k => hrec .exp k trivial) n))
 ·exact ret_bind (path_rt T (by decide) n) (fun p m hp => ret_if (fun _ => ret_ok (node_ns (by decide) hp)) (fun _ => ret_ok (node_ns (by decide) hp)))
 ·refine ret_bind (withinO_rt T hrec 0 (n + 1)) (fun ds m hd => ?_)
  refine ret_bind (need_rt T (by kernel_rfl) m) (fun _ m2 h2 => ?_)
  refine ret_bind (hrec .exp m2 trivial) (fun e m3 he => ?_)
  exact ret_bind (need_rt T (by kernel_rfl) m3) (fun _ m4 h4 => ret_ok (node_ks (by decide) (((skip_is T (by kernel_rfl) h).ql hd.ql).cat (h2.ql (he.ql.skip h4)))))
theorem callL_rt (p : Nat) : ∀ (f : Nat) (acc : List Pb) (n : Nat), QL S p acc n → Ret (callL S F rec d f acc n) fun l m => QL S p l m := by
 intro f
 induction f with
 | zero => intro acc n _; exact ret_dry
 | succ f ih =>
  intro acc n h
  unfold callL
  exact ret_if (fun _ => ret_bind (atomO_rt T hrec n) (fun b m hb => ih _ _ (h.cat hb.ql))) (fun _ => ret_ok h)
theorem callO_rt (n : Nat) : Ret (callO S F rec d n) fun b m => QB S n b m := by
 unfold callO
 refine ret_bind (atomO_rt T hrec n) (fun b m hb => ?_)
 exact ret_bind (callL_rt T hrec n F [b] m hb.ql) (fun l m2 hl => ret_ok (oneOr_ks (by decide) hl))
/-- Signs and what stands between them. -/
def QI (S : Src) (n : Nat) (l : List Nat × List Pb) (m : Nat) : Prop := l.2.length = l.1.length + 1 ∧ ChainP n m l.2 ∧ (∀ x ∈ l.1, n ≤ x ∧ x < m) ∧ Cov S n m fun x => cnN l.1 x + cntL x l.2
theorem infixL_rt (p : Nat) : ∀ (f : Nat) (sg : List Nat) (acc : List Pb) (n : Nat), QI S p (sg, acc) n → Ret (infixL S F rec d f sg acc n) fun l m => QI S p l m := by
 intro f
 induction f with
 | zero => intro sg acc n _; exact ret_dry
 | succ f ih =>
  intro sg acc n h
  unfold infixL
  refine ret_if (fun _ => ?_) (fun _ => ret_ok h)
  refine ret_bind (take_nm (by decide) n) (fun x m hx => ret_bind (callO_rt T hrec m) (fun b m2 hb => ih _ _ _ ?_))
  obtain ⟨h1, h2, h3, h4⟩ := h
  have i1 := h4.le; have i2 := hx.cov.le; have i3 := hb.cov.le
  have h1' : acc.length = sg.length + 1 := h1
  have h3' : ∀ x ∈ sg, p ≤ x ∧ x < n := h3
  refine ⟨by simp only [List.length_append, List.length_singleton]; omega, (h2.up (by omega)).cat hb.ql.ch, fun y hy => ?_, ((h4.add hx.cov).add hb.cov).ext fun y => ?_⟩
  ·rcases List.mem_append.1 hy with hy | hy
   ·have := h3' y hy; omega
   ·have := hx.inn y hy; omega
  ·simp only [cnN_append, cntL_append, cntL]; omega
theorem infixO_rt (n : Nat) : Ret (infixO S F rec d n) fun b m => QB S n b m := by
 unfold infixO
 refine ret_bind (callO_rt T hrec n) (fun b m hb => ?_)
 refine ret_bind (infixL_rt T hrec n F [] [b] m ⟨rfl, hb.ql.ch, fun x hx => (by cases hx), hb.ql.cov.ext fun x => by simp [cnN_nil]⟩) (fun l m2 hl => ret_ok ?_)
 obtain ⟨sg, ks⟩ := l
 obtain ⟨h1, h2, h3, h4⟩ := hl
 have h1 : ks.length = sg.length + 1 := h1
 have h2 : ChainP n m2 ks := h2
 have h4 : Cov S n m2 fun x => cnN sg x + cntL x ks := h4
 show QB S n (oneOr ks 37 n m2 sg) m2
 unfold oneOr
 split
 ·next b =>
  have h1 : 1 = sg.length + 1 := h1
  have : sg = [] := List.length_eq_zero_iff.1 (by omega)
  subst this
  exact QL.one ⟨h2, h4.ext fun x => by simp [cnN_nil]⟩
 ·exact node_mix (by decide) h3 h2 h4 (fun _ => rfl)
theorem clauseO_rt {k : Int} (hk : 0 < k) {fr n : Nat} (hs : Skip S fr n) : Ret (clauseO S rec d k fr n) fun b m => QB S fr b m := by
 unfold clauseO
 refine ret_bind (hrec .pat n trivial) (fun p m hp => ?_)
 refine ret_bind (need_rt T (by kernel_rfl) m) (fun _ m2 h2 => ?_)
 exact ret_bind (hrec .exp m2 trivial) (fun e m3 he => ret_ok (node_ks hk ((hs.ql hp.ql).cat (h2.ql he.ql))))
theorem armO_rt (n : Nat) : Ret (armO S rec d n) fun b m => QB S n b m := clauseO_rt T hrec (by decide) (Skip.nil n)
theorem expO_rt (n : Nat) : Ret (expO S F rec d n) fun b m => QB S n b m := by
 unfold expO
 refine ret_if (fun h => ?_) (fun _ => ret_if (fun h => ?_) (fun _ => ret_if (fun h => ?_) (fun _ => infixO_rt T hrec n)))
 ·refine ret_bind (hrec .exp (n + 1) trivial) (fun a m ha => ?_)
  refine ret_bind (need_rt T (by kernel_rfl) m) (fun _ m2 h2 => ?_)
  refine ret_bind (hrec .exp m2 trivial) (fun b m3 hb => ?_)
  refine ret_bind (need_rt T (by kernel_rfl) m3) (fun _ m4 h4 => ?_)
  exact ret_bind (hrec .exp m4 trivial) (fun c m5 hc => ret_ok (node_ks (by decide) (((skip_is T (by kernel_rfl) h).ql ha.ql).cat ((h2.ql hb.ql).cat (h4.ql hc.ql)))))
 ·refine ret_bind (hrec .exp (n + 1) trivial) (fun a m ha => ?_)
  refine ret_bind (need_rt T (by kernel_rfl) m) (fun _ m2 h2 => ?_)
  exact ret_bind (rowO_rt T F (by kernel_rfl) (armO_rt T hrec) m2) (fun l m3 hl => ret_ok (node_ks (by decide) (((skip_is T (by kernel_rfl) h).ql ha.ql).cat (h2.ql hl))))
 ·exact clauseO_rt T hrec (by decide) (skip_is T (by kernel_rfl) h)
omit hrec in
theorem varsL_rt (p : Nat) : ∀ (f n : Nat), Skip S p n → Ret (varsL S f n) fun _ m => Skip S p m := by
 intro f
 induction f with
 | zero => intro n _; exact ret_dry
 | succ f ih =>
  intro n h
  unfold varsL
  exact ret_if (fun hc => ret_bind (take_sk (n + 1)) (fun _ m hm => ih _ ((h.cat (skip_is T (by kernel_rfl) hc)).cat hm))) (fun _ => ret_ok h)
omit hrec in
theorem typeNameO_rt (n : Nat) : Ret (typeNameO S F n) fun x m => QN S n [x] m := by
 unfold typeNameO
 refine ret_if (fun h => ?_) (fun _ => ret_if (fun h => ?_) (fun _ => take_nm (by decide) n))
 ·exact (take_nm (by decide) (n + 1)).mono fun x m hx => (skip_kd h rfl).qn hx
 ·refine ret_bind (take_sk (n + 1)) (fun _ m hm => ?_)
  refine ret_bind (varsL_rt T (n + 1) F m hm) (fun _ m2 h2 => ?_)
  refine ret_bind (need_rt T (by kernel_rfl) m2) (fun _ m3 h3 => ?_)
  exact (take_nm (by decide) m3).mono fun x m hx => ((skip_is T (by kernel_rfl) h).cat (h2.cat h3)).qn hx
theorem conO_rt (n : Nat) : Ret (conO S rec d n) fun b m => QB S n b m := by
 unfold conO
 refine ret_bind (take_nm (by decide) n) (fun x m hx => ret_if (fun h => ?_) (fun _ => ret_ok (node_ns (by decide) hx)))
 exact ret_bind (hrec .ty (m + 1) trivial) (fun b m2 hb => ret_ok (node_nk (by decide) hx ((skip_is T (by kernel_rfl) h).ql hb.ql)))
theorem dbindO_rt (n : Nat) : Ret (dbindO S F rec d n) fun b m => QB S n b m := by
 unfold dbindO
 refine ret_bind (typeNameO_rt T n) (fun x m hx => ?_)
 refine ret_bind (need_rt T (by kernel_rfl) m) (fun _ m2 h2 => ?_)
 exact ret_bind (rowO_rt T F (by kernel_rfl) (conO_rt T hrec) m2) (fun l m3 hl => ret_ok (node_nk (by decide) hx (h2.ql hl)))
theorem datatypesO_rt {fr n : Nat} (hs : Skip S fr n) : Ret (datatypesO S F rec d fr n) fun b m => QB S fr b m := by
 unfold datatypesO
 exact ret_bind (rowO_rt T F (by kernel_rfl) (dbindO_rt T hrec) n) (fun l m hl => ret_ok (node_ks (by decide) (hs.ql hl)))
theorem specO_rt (n : Nat) : Ret (specO S F rec d n) fun b m => QB S n b m := by
 unfold specO
 refine ret_if (fun h => ?_) (fun _ => ret_if (fun h => ?_) (fun _ => ret_if (fun h => ?_) (fun _ => ret_if (fun h => ?_) (fun _ => ?_))))
 ·refine ret_bind (value_rt T (n + 1)) (fun x m hx => ?_)
  refine ret_bind (need_rt T (by kernel_rfl) m) (fun _ m2 h2 => ?_)
  exact ret_bind (hrec .ty m2 trivial) (fun b m3 hb => ret_ok (node_nk (by decide) ((skip_is T (by kernel_rfl) h).qn hx) (h2.ql hb.ql)))
 ·refine ret_bind (typeNameO_rt T (n + 1)) (fun x m hx => ret_if (fun h2 => ?_) (fun _ => ret_ok (node_ns (by decide) ((skip_is T (by kernel_rfl) h).qn hx))))
  exact ret_bind (hrec .ty (m + 1) trivial) (fun b m3 hb => ret_ok (node_nk (by decide) ((skip_is T (by kernel_rfl) h).qn hx) ((skip_is T (by kernel_rfl) h2).ql hb.ql)))
 ·exact datatypesO_rt T hrec (skip_is T (by kernel_rfl) h)
 ·refine ret_bind (take_nm (by decide) (n + 1)) (fun x m hx => ?_)
  refine ret_bind (need_rt T (by kernel_rfl) m) (fun _ m2 h2 => ?_)
  exact ret_bind (hrec .sig m2 trivial) (fun b m3 hb => ret_ok (node_nk (by decide) ((skip_is T (by kernel_rfl) h).qn hx) (h2.ql hb.ql)))
 ·refine ret_bind (need_rt T (by kernel_rfl) n) (fun _ m2 h2 => ?_)
  exact ret_bind (hrec .sig m2 trivial) (fun b m3 hb => ret_ok (node_ks (by decide) (h2.ql hb.ql)))
theorem specsL_rt (p : Nat) : ∀ (f : Nat) (acc : List Pb) (n : Nat), QL S p acc n → Ret (specsL S F rec d f acc n) fun l m => QL S p l m := by
 intro f
 induction f with
 | zero => intro acc n _; exact ret_dry
 | succ f ih =>
  intro acc n h
  unfold specsL
  refine ret_if (fun hc => ret_ok (h.skip (skip_is T (by kernel_rfl) hc))) (fun _ => ret_if (fun hc => ih _ _ (h.skip (skip_is T (by kernel_rfl) hc))) (fun _ => ?_))
  exact ret_bind (specO_rt T hrec n) (fun b m hb => ih _ _ (h.cat hb.ql))
theorem bareSigO_rt (n : Nat) : Ret (bareSigO S F rec d n) fun b m => QB S n b m := by
 unfold bareSigO
 refine ret_if (fun h => ?_) (fun _ => ret_bind (take_nm (by decide) n) (fun x m hx => ret_ok (node_ns (by decide) hx)))
 exact ret_bind (specsL_rt T hrec (n + 1) F [] (n + 1) (QL.nil _)) (fun l m hl => ret_ok (node_ks (by decide) ((skip_is T (by kernel_rfl) h).ql hl)))
theorem whereL_rt (p : Nat) : ∀ (f : Nat) (b : Pb) (n : Nat), QB S p b n → Ret (whereL S rec d p f b n) fun b m => QB S p b m := by
 intro f
 induction f with
 | zero => intro b n _; exact ret_dry
 | succ f ih =>
  intro b n h
  unfold whereL
  refine ret_if (fun hc => ?_) (fun _ => ret_ok h)
  refine ret_bind (need_rt T (by kernel_rfl) (n + 1)) (fun _ m h1 => ?_)
  refine ret_bind (typePath_rt T m) (fun p m2 hp => ?_)
  refine ret_bind (need_rt T (by kernel_rfl) m2) (fun _ m3 h3 => ?_)
  exact ret_bind (hrec .ty m3 trivial) (fun c m4 hb => ih _ _ (node_knk (l := [b]) (r := [c]) (by decide) (h.ql.skip ((skip_is T (by kernel_rfl) hc).cat h1)) hp (h3.ql hb.ql)))
theorem sigO_rt (n : Nat) : Ret (sigO S F rec d n) fun b m => QB S n b m := by
 unfold sigO
 exact ret_bind (bareSigO_rt T hrec n) (fun b m hb => whereL_rt T hrec n F b m hb)
theorem bareStrO_rt (n : Nat) : Ret (bareStrO S F rec d n) fun b m => QB S n b m := by
 unfold bareStrO
 refine ret_if (fun h => ?_) (fun _ => ret_if (fun h => ?_) (fun _ => ret_bind (path_rt T (by decide) n) (fun p m hp => ret_ok (node_ns (by decide) hp))))
 ·refine ret_bind (decsO_rt T hrec 1 (n + 1)) (fun l m hl => ?_)
  exact ret_bind (need_rt T (by kernel_rfl) m) (fun _ m2 h2 => ret_ok (node_ks (by decide) ((skip_is T (by kernel_rfl) h).ql (hl.skip h2))))
 ·simp only [Bool.and_eq_true, beq_iff_eq] at h
  have h1 : QN S n [n] (n + 1) := ⟨fun x hx => by have : x = n := (by simpa using hx); omega, name_one (by unfold Src.nm; rw [h.1]; rfl)⟩
  refine ret_bind (hrec .str (n + 2) trivial) (fun b m hb => ?_)
  exact ret_bind (need_rt T (by kernel_rfl) m) (fun _ m2 h2 => ret_ok (node_nk (by decide) h1 ((skip_is T (by kernel_rfl) h.2).ql (hb.ql.skip h2))))
theorem sealL_rt (p : Nat) : ∀ (f : Nat) (b : Pb) (n : Nat), QB S p b n → Ret (sealL S rec d p f b n) fun b m => QB S p b m := by
 intro f
 induction f with
 | zero => intro b n _; exact ret_dry
 | succ f ih =>
  intro b n h
  unfold sealL
  refine ret_if (fun _ => ret_ok h) (fun hc => ?_)
  exact ret_bind (hrec .sig (n + 1) trivial) (fun s m hs => ih _ _ (QB.marked (node_ks (by decide) (h.ql.cat ((colon_rt T n hc).ql hs.ql)))))
theorem strO_rt (n : Nat) : Ret (strO S F rec d n) fun b m => QB S n b m := by
 unfold strO
 exact ret_bind (bareStrO_rt T hrec n) (fun b m hb => sealL_rt T hrec n F b m hb)
theorem bodyO_rt (n : Nat) : Ret (bodyO S rec d n) fun l m => QL S n l.2 m := by
 unfold bodyO
 refine ret_bind (P := fun l m => QL S n l m) (ret_if (fun _ => ret_ok (QL.nil n)) (fun hc => ?_)) (fun l m hl => ?_)
 ·exact ret_bind (hrec .sig (n + 1) trivial) (fun s m hs => ret_ok ((colon_rt T n hc).ql hs.ql))
 ·refine ret_bind (need_rt T (by kernel_rfl) m) (fun _ m2 h2 => ?_)
  exact ret_bind (hrec .str m2 trivial) (fun b m3 hb => ret_ok (hl.cat (h2.ql hb.ql)))
theorem structureO_rt {fr n : Nat} (hs : Skip S fr n) : Ret (structureO S rec d fr n) fun b m => QB S fr b m := by
 unfold structureO
 refine ret_bind (take_nm (by decide) n) (fun x m hx => ?_)
 exact ret_bind (bodyO_rt T hrec m) (fun l m2 hl => ret_ok (QB.marked (node_nk (by decide) (hs.qn hx) hl)))
theorem functorO_rt {fr n : Nat} (hs : Skip S fr n) : Ret (functorO S rec d fr n) fun b m => QB S fr b m := by
 unfold functorO
 refine ret_bind (take_nm (by decide) n) (fun x m hx => ?_)
 refine ret_bind (need_rt T (by kernel_rfl) m) (fun _ m2 h2 => ?_)
 refine ret_bind (take_nm (by decide) m2) (fun y m3 hy => ?_)
 refine ret_bind (need_rt T (by kernel_rfl) m3) (fun _ m4 h4 => ?_)
 refine ret_bind (hrec .sig m4 trivial) (fun g m5 hg => ?_)
 refine ret_bind (need_rt T (by kernel_rfl) m5) (fun _ m6 h6 => ?_)
 exact ret_bind (bodyO_rt T hrec m6) (fun l m7 hl => ret_ok (QB.marked (node_nk (ns := [x] ++ [y]) (by decide) (hs.qn (hx.cat (h2.qn hy))) (h4.ql (hg.ql.cat (h6.ql hl))))))
theorem funL_rt (p : Nat) : ∀ (f : Nat) (acc : List Pb) (n : Nat), QL S p acc n → Ret (funL S F rec d f acc n) fun l m => QL S p l m := by
 intro f
 induction f with
 | zero => intro acc n _; exact ret_dry
 | succ f ih =>
  intro acc n h
  unfold funL
  exact ret_if (fun _ => ret_bind (atomicPatO_rt T hrec n) (fun b m hb => ih _ _ (h.cat hb.ql))) (fun _ => ret_ok h)
theorem functionO_rt (n : Nat) : Ret (functionO S F rec d n) fun b m => QB S n b m := by
 unfold functionO
 refine ret_bind (value_rt T n) (fun x m hx => ?_)
 refine ret_bind (atomicPatO_rt T hrec m) (fun b m2 hb => ?_)
 refine ret_bind (funL_rt T hrec m F [b] m2 hb.ql) (fun l m3 hl => ?_)
 refine ret_bind (need_rt T (by kernel_rfl) m3) (fun _ m4 h4 => ?_)
 exact ret_bind (hrec .exp m4 trivial) (fun e m5 he => ret_ok (node_nk (by decide) hx (hl.cat (h4.ql he.ql))))
theorem localO_rt {fr n : Nat} (hs : Skip S fr n) (a : Nat) : Ret (localO S F rec d fr a n) fun b m => QB S fr b m := by
 unfold localO
 refine ret_bind (withinO_rt T hrec a n) (fun x m hx => ?_)
 refine ret_bind (need_rt T (by kernel_rfl) m) (fun _ m2 h2 => ?_)
 refine ret_bind (withinO_rt T hrec a m2) (fun y m3 hy => ?_)
 exact ret_bind (need_rt T (by kernel_rfl) m3) (fun _ m4 h4 => ret_ok (node_ks (by decide) ((hs.ql hx.ql).cat (h2.ql (hy.ql.skip h4)))))
theorem decO_rt (a n : Nat) (hl : declares S a n = true) : Ret (decO S F rec d a n) fun b m => QB S n b m := by
 unfold decO
 refine ret_if (fun h => ?_) (fun q1 => ret_if (fun h => ?_) (fun q2 => ret_if (fun h => ?_) (fun q3 => ret_if (fun h => ?_) (fun q4 => ret_if (fun h => ?_) (fun q5 => ret_if (fun h => ?_) (fun q6 => ret_if (fun h => ?_) (fun q7 => ret_if (fun h => ?_) (fun q8 => ?_))))))))
 ·refine ret_bind (hrec .pat (n + 1) trivial) (fun p m hp => ?_)
  refine ret_bind (need_rt T (by kernel_rfl) m) (fun _ m2 h2 => ?_)
  exact ret_bind (hrec .exp m2 trivial) (fun e m3 he => ret_ok (node_ks (by decide) (((skip_is T (by kernel_rfl) h).ql hp.ql).cat (h2.ql he.ql))))
 ·exact ret_bind (rowO_rt T F (by kernel_rfl) (functionO_rt T hrec) (n + 1)) (fun l m hl => ret_ok (node_ks (by decide) ((skip_is T (by kernel_rfl) h).ql hl)))
 ·refine ret_bind (typeNameO_rt T (n + 1)) (fun x m hx => ?_)
  refine ret_bind (need_rt T (by kernel_rfl) m) (fun _ m2 h2 => ?_)
  exact ret_bind (hrec .ty m2 trivial) (fun b m3 hb => ret_ok (node_nk (by decide) ((skip_is T (by kernel_rfl) h).qn hx) (h2.ql hb.ql)))
 ·exact datatypesO_rt T hrec (skip_is T (by kernel_rfl) h)
 ·exact structureO_rt T hrec (skip_is T (by kernel_rfl) h)
 ·refine ret_bind (take_nm (by decide) (n + 1)) (fun x m hx => ?_)
  refine ret_bind (need_rt T (by kernel_rfl) m) (fun _ m2 h2 => ?_)
  exact ret_bind (hrec .sig m2 trivial) (fun b m3 hb => ret_ok (node_nk (by decide) ((skip_is T (by kernel_rfl) h).qn hx) (h2.ql hb.ql)))
 ·exact functorO_rt T hrec (skip_is T (by kernel_rfl) h)
 ·exact ret_bind (path_rt T (by decide) (n + 1)) (fun p m hp => ret_ok (node_ns (by decide) ((skip_is T (by kernel_rfl) h).qn hp)))
 ·refine localO_rt T hrec (skip_is T (t := [108, 111, 99, 97, 108]) (by kernel_rfl) ?_) a
  unfold declares at hl
  simp only [q1, q2, q3, q4, q5, q6, q7, q8, Bool.or_self, Bool.false_or, cond_false] at hl
  exact hl
end

theorem parts_rt : ∀ (f : Nat) (nt : Nt) (d n : Nat), S.may nt n → Ret (parts S f nt d n) fun b m => QB S n b m := by
 intro f
 induction f with
 | zero => intro nt d n _; exact ret_dry
 | succ f ih =>
  intro nt d n hm
  unfold parts
  refine ret_if (fun _ => ret_deep) (fun _ => ?_)
  have hrec : ∀ nt k, S.may nt k → Ret (parts S f nt (d + 1) k) fun b m => QB S k b m := fun nt k hk => ih nt (d + 1) k hk
  cases nt with
  | exp => exact expO_rt T hrec n
  | pat => exact patO_rt T hrec n
  | ty => exact tyO_rt T hrec n
  | sig => exact sigO_rt T hrec n
  | str => exact strO_rt T hrec n
  | dec a => exact decO_rt T hrec a n hm
theorem fileO_rt (F : Nat) : Ret (fileO S F 0) fun b m => QB S 0 b m := by
 unfold fileO
 exact ret_bind (decsO_rt T (F := F) (rec := parts S F) (d := 0) (fun nt k hk => parts_rt T F nt 0 k hk) 2 0) (fun l m hl => ret_ok (node_ks (by decide) hl))
end
end Go.Proofs.YtifoodfbgghplaaGreatDoor

namespace Go.Proofs.YtifoodfbgghplaaGreatDoor
open Go.RowKit
set_option maxRecDepth 20000
set_option linter.unusedVariables false
set_option linter.unusedSimpArgs false

mutual
/-- A branch, all its parts and all their names. -/
def Pb.wt : Pb → Nat
 | .mk _ _ _ _ ns ks => 1 + ns.length + wtL ks
def wtL : List Pb → Nat
 | [] => 0
 | b :: r => b.wt + wtL r
end
theorem wtL_append (a b : List Pb) : wtL (a ++ b) = wtL a + wtL b := by
 induction a with
 | nil => simp [wtL]
 | cons y r ih => simp [wtL, ih]; omega
theorem wt_node (k : Int) (f t : Nat) (ns : List Nat) (l : List Pb) : (node k f t ns l).wt = 1 + ns.length + wtL l := by
 simp [node, Pb.wt]
theorem wt_marked (m : Int) (b : Pb) : (marked m b).wt = b.wt := by
 cases b; simp [marked, Pb.wt]
theorem oneOr_wt {l : List Pb} {k : Int} {f t : Nat} {ns : List Nat} {n m : Nat} (h : wtL l + l.length + ns.length + 3 * n ≤ 3 * m) (h1 : 1 ≤ l.length) : (oneOr l k f t ns).wt + 1 + 3 * n ≤ 3 * m := by
 unfold oneOr
 split
 ·simp [wtL] at h; omega
 ·next hne =>
  rw [wt_node]
  match l, hne, h1 with
  | a :: b :: r, _, _ => simp only [List.length_cons] at h ⊢; omega
  | [a], hne, _ => exact absurd rfl (hne a)
section
variable {S : Src}
theorem need_wt {t : List UInt8} (n : Nat) : Ret (S.need t n) fun _ m => m = n + 1 := by
 unfold Src.need
 exact ret_if (fun h => ret_ok rfl) (fun _ => ret_form)
theorem take_wt {ks : List Int} (n : Nat) : Ret (S.take ks n) fun x m => m = n + 1 := by
 unfold Src.take
 exact ret_if (fun h => ret_ok rfl) (fun _ => ret_form)
theorem pathL_wt {ks : List Int} (p : Nat) : ∀ (f : Nat) (acc : List Nat) (n : Nat), 1 ≤ acc.length → acc.length + p ≤ n → Ret (S.pathL ks f acc n) fun l m => 1 ≤ l.length ∧ l.length + p ≤ m := by
 intro f
 induction f with
 | zero => intro acc n _ _; exact ret_dry
 | succ f ih =>
  intro acc n h0 h
  unfold Src.pathL
  refine ret_if (fun hc => ?_) (fun _ => ret_ok ⟨h0, h⟩)
  exact ret_bind (take_wt (n + 1)) (fun x m hx => ih _ _ (by simp) (by simp; omega))
theorem path_wt {ks : List Int} (n : Nat) : Ret (S.path ks n) fun l m => 1 ≤ l.length ∧ l.length + n ≤ m := by
 unfold Src.path
 exact ret_bind (take_wt n) (fun x m hx => pathL_wt n _ _ _ (by simp) (by simp; omega))
theorem typePath_wt (n : Nat) : Ret (S.typePath n) fun l m => 1 ≤ l.length ∧ l.length + n ≤ m := by
 unfold Src.typePath
 exact ret_bind (path_wt n) (fun p m hp => ret_if (fun _ => ret_ok hp) (fun _ => ret_form))
theorem value_wt (n : Nat) : Ret (S.value n) fun x m => n + 1 ≤ m := by
 unfold Src.value
 refine ret_if (fun h => ?_) (fun _ => (take_wt n).mono fun x m hx => by omega)
 exact (take_wt (n + 1)).mono fun x m hx => by omega
theorem rowL_wt {mark : List UInt8} {read : Nat → Out Pb} (hr : ∀ k, Ret (read k) fun b m => b.wt + 1 + 3 * k ≤ 3 * m) (p : Nat) : ∀ (f : Nat) (acc : List Pb) (n : Nat), 1 ≤ acc.length → wtL acc + acc.length + 3 * p ≤ 3 * n → Ret (rowL S mark read f acc n) fun l m => 1 ≤ l.length ∧ wtL l + l.length + 3 * p ≤ 3 * m := by
 intro f
 induction f with
 | zero => intro acc n _ _; exact ret_dry
 | succ f ih =>
  intro acc n h0 h
  unfold rowL
  refine ret_if (fun hc => ?_) (fun _ => ret_ok ⟨h0, h⟩)
  exact ret_bind (hr (n + 1)) (fun b m hb => ih _ _ (by simp) (by simp only [wtL_append, wtL, List.length_append, List.length_singleton]; omega))
theorem rowO_wt (F : Nat) {mark : List UInt8} {read : Nat → Out Pb} (hr : ∀ k, Ret (read k) fun b m => b.wt + 1 + 3 * k ≤ 3 * m) (n : Nat) : Ret (rowO S F mark read n) fun l m => 1 ≤ l.length ∧ wtL l + l.length + 3 * n ≤ 3 * m := by
 unfold rowO
 exact ret_bind (hr n) (fun b m hb => rowL_wt hr n F [b] m (by simp) (by simp [wtL]; omega))
section
variable {F : Nat} {rec : Nt → Nat → Nat → Out Pb} {d : Nat} (hrec : ∀ nt k, S.may nt k → Ret (rec nt d k) fun b m => b.wt + 1 + 3 * k ≤ 3 * m)
include hrec
theorem atomicTyO_wt (n : Nat) : Ret (atomicTyO S F rec d n) fun b m => b.wt + 1 + 3 * n ≤ 3 * m := by
 unfold atomicTyO
 refine ret_if (fun h => ret_ok (by simp [wt_node, wtL]; omega)) (fun _ => ret_if (fun h => ?_) (fun _ => ?_))
 ·refine ret_bind (rowO_wt F (fun k => hrec .ty k trivial) (n + 1)) (fun l m hl => ?_)
  refine ret_bind (need_wt m) (fun _ m2 h2 => ?_)
  unfold pick1
  split
  ·exact ret_ok (by simp only [wtL, List.length_singleton] at hl; omega)
  ·exact ret_bind (typePath_wt m2) (fun p m3 hp => ret_ok (by rw [wt_node]; omega))
 ·exact ret_bind (typePath_wt n) (fun p m3 hp => ret_ok (by simp only [wt_node, wtL]; omega))
theorem appliedL_wt (n : Nat) : ∀ (f : Nat) (b : Pb) (m : Nat), b.wt + 1 + 3 * n ≤ 3 * m → Ret (appliedL S n f b m) fun b m => b.wt + 1 + 3 * n ≤ 3 * m := by
 have _ := hrec
 intro f
 induction f with
 | zero => intro b m _; exact ret_dry
 | succ f ih =>
  intro b m h
  unfold appliedL
  exact ret_if (fun _ => ret_bind (typePath_wt m) (fun p m1 hp => ih _ _ (by simp only [wt_node, wtL]; omega))) (fun _ => ret_ok h)
theorem appliedO_wt (n : Nat) : Ret (appliedO S F rec d n) fun b m => b.wt + 1 + 3 * n ≤ 3 * m := by
 unfold appliedO
 exact ret_bind (atomicTyO_wt hrec n) (fun b m hb => appliedL_wt hrec n F b m hb)
theorem productO_wt (n : Nat) : Ret (productO S F rec d n) fun b m => b.wt + 1 + 3 * n ≤ 3 * m := by
 unfold productO
 exact ret_bind (rowO_wt F (appliedO_wt hrec) n) (fun l m hl => ret_ok (oneOr_wt (by simpa using hl.2) hl.1))
theorem tyO_wt (n : Nat) : Ret (tyO S F rec d n) fun b m => b.wt + 1 + 3 * n ≤ 3 * m := by
 unfold tyO
 refine ret_bind (productO_wt hrec n) (fun b m hb => ret_if (fun h => ?_) (fun _ => ret_ok hb))
 exact ret_bind (hrec .ty (m + 1) trivial) (fun c m2 hc => ret_ok (by simp only [wt_node, wtL, List.length_nil]; omega))
omit hrec in
theorem tupleO_wt {fr n : Nat} (hs : fr + 1 ≤ n) {member : Nat → Out Pb} (hm : ∀ k, Ret (member k) fun b m => b.wt + 1 + 3 * k ≤ 3 * m) : Ret (tupleO S F fr member n) fun b m => b.wt + 1 + 3 * fr ≤ 3 * m := by
 unfold tupleO
 refine ret_if (fun h => ret_ok (by simp only [wt_node, wtL, List.length_nil]; omega)) (fun _ => ?_)
 refine ret_bind (rowO_wt F hm n) (fun l m hl => ?_)
 exact ret_bind (need_wt m) (fun _ m2 h2 => ret_ok (oneOr_wt (by simp only [List.length_nil]; omega) hl.1))
omit hrec in
theorem plainO_wt {named : Int} {member : Nat → Out Pb} (hm : ∀ k, Ret (member k) fun b m => b.wt + 1 + 3 * k ≤ 3 * m) (n : Nat) : Ret (plainO S F named member n) fun b m => b.wt + 1 + 3 * n ≤ 3 * m := by
 unfold plainO
 refine ret_if (fun h => ret_ok (by simp only [wt_node, wtL, List.length_nil]; omega)) (fun _ => ret_if (fun h => ret_ok (by simp only [wt_node, wtL, List.length_nil]; omega)) (fun _ => ret_if (fun h => ?_) (fun _ => ?_)))
 ·exact tupleO_wt (by omega) hm
 ·exact ret_bind (value_wt n) (fun x m hx => ret_ok (by simp only [wt_node, wtL, List.length_singleton]; omega))
theorem atomicPatO_wt (n : Nat) : Ret (atomicPatO S F rec d n) fun b m => b.wt + 1 + 3 * n ≤ 3 * m := by
 unfold atomicPatO
 refine ret_if (fun h => ret_ok (by simp only [wt_node, wtL, List.length_nil]; omega)) (fun _ => ret_if (fun _ => ?_) (fun _ => plainO_wt (fun k => hrec .pat k trivial) n))
 exact ret_bind (path_wt n) (fun p m hp => ret_ok (by simp only [wt_node, wtL]; omega))
theorem patO_wt (n : Nat) : Ret (patO S F rec d n) fun b m => b.wt + 1 + 3 * n ≤ 3 * m := by
 unfold patO
 refine ret_if (fun h => ?_) (fun _ => ret_if (fun _ => ?_) (fun _ => atomicPatO_wt hrec n))
 ·exact ret_bind (hrec .pat (n + 2) trivial) (fun b m hb => ret_ok (by simp only [wt_node, wtL, List.length_singleton]; omega))
 ·refine ret_bind (path_wt n) (fun p m hp => ret_if (fun _ => ?_) (fun _ => ret_ok (by simp only [wt_node, wtL]; omega)))
  exact ret_bind (atomicPatO_wt hrec m) (fun b m2 hb => ret_ok (by simp only [wt_node, wtL]; omega))
theorem decsL_wt (a p : Nat) : ∀ (f : Nat) (acc : List Pb) (n : Nat), wtL acc + acc.length + 3 * p ≤ 3 * n → Ret (decsL S rec d a f acc n) fun l m => wtL l + l.length + 3 * p ≤ 3 * m := by
 intro f
 induction f with
 | zero => intro acc n _; exact ret_dry
 | succ f ih =>
  intro acc n h
  unfold decsL
  refine ret_if (fun hc => ih _ _ (by omega)) (fun _ => ret_if (fun hd => ?_) (fun _ => ret_ok h))
  exact ret_bind (hrec (.dec a) n hd) (fun b m hb => ih _ _ (by simp only [wtL_append, wtL, List.length_append, List.length_singleton]; omega))
theorem decsO_wt (a n : Nat) : Ret (decsO S F rec d a n) fun l m => wtL l + l.length + 3 * n ≤ 3 * m := decsL_wt hrec a n F [] n (by simp [wtL])
theorem withinO_wt (a n : Nat) : Ret (withinO S F rec d a n) fun b m => b.wt + 3 * n ≤ 3 * m + 1 := by
 unfold withinO
 exact ret_bind (decsO_wt hrec a n) (fun l m hl => ret_ok (by simp only [wt_node, List.length_nil]; omega))
theorem atomO_wt (n : Nat) : Ret (atomO S F rec d n) fun b m => b.wt + 1 + 3 * n ≤ 3 * m := by
 unfold atomO
 refine ret_if (fun _ => ?_) (fun _ => ret_if (fun h => ?_) (fun _ => plainO_wt (fun k => hrec .exp k trivial) n))
 ·exact ret_bind (path_wt n) (fun p m hp => ret_if (fun _ => ret_ok (by simp only [wt_node, wtL]; omega)) (fun _ => ret_ok (by simp only [wt_node, wtL]; omega)))
 ·refine ret_bind (withinO_wt hrec 0 (n + 1)) (fun ds m hd => ?_)
  refine ret_bind (need_wt m) (fun _ m2 h2 => ?_)
  refine ret_bind (hrec .exp m2 trivial) (fun e m3 he => ?_)
  exact ret_bind (need_wt m3) (fun _ m4 h4 => ret_ok (by simp only [wt_node, wtL, List.length_nil]; omega))
theorem callL_wt (p : Nat) : ∀ (f : Nat) (acc : List Pb) (n : Nat), 1 ≤ acc.length → wtL acc + acc.length + 3 * p ≤ 3 * n → Ret (callL S F rec d f acc n) fun l m => 1 ≤ l.length ∧ wtL l + l.length + 3 * p ≤ 3 * m := by
 intro f
 induction f with
 | zero => intro acc n _ _; exact ret_dry
 | succ f ih =>
  intro acc n h0 h
  unfold callL
  exact ret_if (fun _ => ret_bind (atomO_wt hrec n) (fun b m hb => ih _ _ (by simp) (by simp only [wtL_append, wtL, List.length_append, List.length_singleton]; omega))) (fun _ => ret_ok ⟨h0, h⟩)
theorem callO_wt (n : Nat) : Ret (callO S F rec d n) fun b m => b.wt + 1 + 3 * n ≤ 3 * m := by
 unfold callO
 refine ret_bind (atomO_wt hrec n) (fun b m hb => ?_)
 exact ret_bind (callL_wt hrec n F [b] m (by simp) (by simp [wtL]; omega)) (fun l m2 hl => ret_ok (oneOr_wt (by simpa using hl.2) hl.1))
theorem infixL_wt (p : Nat) : ∀ (f : Nat) (sg : List Nat) (acc : List Pb) (n : Nat), 1 ≤ acc.length → wtL acc + acc.length + sg.length + 3 * p ≤ 3 * n → Ret (infixL S F rec d f sg acc n) fun l m => 1 ≤ l.2.length ∧ wtL l.2 + l.2.length + l.1.length + 3 * p ≤ 3 * m := by
 intro f
 induction f with
 | zero => intro sg acc n _ _; exact ret_dry
 | succ f ih =>
  intro sg acc n h0 h
  unfold infixL
  refine ret_if (fun _ => ?_) (fun _ => ret_ok ⟨h0, h⟩)
  exact ret_bind (take_wt n) (fun x m hx => ret_bind (callO_wt hrec m) (fun b m2 hb => ih _ _ _ (by simp) (by simp only [wtL_append, wtL, List.length_append, List.length_singleton]; omega)))
theorem infixO_wt (n : Nat) : Ret (infixO S F rec d n) fun b m => b.wt + 1 + 3 * n ≤ 3 * m := by
 unfold infixO
 refine ret_bind (callO_wt hrec n) (fun b m hb => ?_)
 exact ret_bind (infixL_wt hrec n F [] [b] m (by simp) (by simp [wtL]; omega)) (fun l m2 hl => ret_ok (oneOr_wt hl.2 hl.1))
theorem clauseO_wt {k : Int} {fr n : Nat} (hs : fr ≤ n) : Ret (clauseO S rec d k fr n) fun b m => b.wt + 1 + 3 * fr ≤ 3 * m := by
 unfold clauseO
 refine ret_bind (hrec .pat n trivial) (fun p m hp => ?_)
 refine ret_bind (need_wt m) (fun _ m2 h2 => ?_)
 exact ret_bind (hrec .exp m2 trivial) (fun e m3 he => ret_ok (by simp only [wt_node, wtL, List.length_nil]; omega))
theorem armO_wt (n : Nat) : Ret (armO S rec d n) fun b m => b.wt + 1 + 3 * n ≤ 3 * m := clauseO_wt hrec (Nat.le_refl _)
theorem expO_wt (n : Nat) : Ret (expO S F rec d n) fun b m => b.wt + 1 + 3 * n ≤ 3 * m := by
 unfold expO
 refine ret_if (fun h => ?_) (fun _ => ret_if (fun h => ?_) (fun _ => ret_if (fun h => ?_) (fun _ => infixO_wt hrec n)))
 ·refine ret_bind (hrec .exp (n + 1) trivial) (fun a m ha => ?_)
  refine ret_bind (need_wt m) (fun _ m2 h2 => ?_)
  refine ret_bind (hrec .exp m2 trivial) (fun b m3 hb => ?_)
  refine ret_bind (need_wt m3) (fun _ m4 h4 => ?_)
  exact ret_bind (hrec .exp m4 trivial) (fun c m5 hc => ret_ok (by simp only [wt_node, wtL, List.length_nil]; omega))
 ·refine ret_bind (hrec .exp (n + 1) trivial) (fun a m ha => ?_)
  refine ret_bind (need_wt m) (fun _ m2 h2 => ?_)
  exact ret_bind (rowO_wt F (armO_wt hrec) m2) (fun l m3 hl => ret_ok (by simp only [wt_node, wtL_append, wtL, List.length_nil]; omega))
 ·exact clauseO_wt hrec (by omega)
omit hrec in
theorem varsL_wt : ∀ (f n : Nat), Ret (varsL S f n) fun _ m => n ≤ m := by
 intro f
 induction f with
 | zero => intro n; exact ret_dry
 | succ f ih =>
  intro n
  unfold varsL
  exact ret_if (fun hc => ret_bind (take_wt (n + 1)) (fun _ m hm => (ih m).mono fun _ m2 h => by omega)) (fun _ => ret_ok (Nat.le_refl _))
omit hrec in
theorem typeNameO_wt (n : Nat) : Ret (typeNameO S F n) fun x m => n + 1 ≤ m := by
 unfold typeNameO
 refine ret_if (fun h => ?_) (fun _ => ret_if (fun h => ?_) (fun _ => (take_wt n).mono fun x m hx => by omega))
 ·exact (take_wt (n + 1)).mono fun x m hx => by omega
 ·refine ret_bind (take_wt (n + 1)) (fun _ m hm => ?_)
  refine ret_bind (varsL_wt F m) (fun _ m2 h2 => ?_)
  refine ret_bind (need_wt m2) (fun _ m3 h3 => ?_)
  exact (take_wt m3).mono fun x m hx => by omega
theorem conO_wt (n : Nat) : Ret (conO S rec d n) fun b m => b.wt + 1 + 3 * n ≤ 3 * m := by
 unfold conO
 refine ret_bind (take_wt n) (fun x m hx => ret_if (fun h => ?_) (fun _ => ret_ok (by simp only [wt_node, wtL, List.length_singleton]; omega)))
 exact ret_bind (hrec .ty (m + 1) trivial) (fun b m2 hb => ret_ok (by simp only [wt_node, wtL, List.length_singleton]; omega))
theorem dbindO_wt (n : Nat) : Ret (dbindO S F rec d n) fun b m => b.wt + 1 + 3 * n ≤ 3 * m := by
 unfold dbindO
 refine ret_bind (typeNameO_wt n) (fun x m hx => ?_)
 refine ret_bind (need_wt m) (fun _ m2 h2 => ?_)
 exact ret_bind (rowO_wt F (conO_wt hrec) m2) (fun l m3 hl => ret_ok (by simp only [wt_node, List.length_singleton]; omega))
theorem datatypesO_wt {fr n : Nat} (hs : fr + 1 ≤ n) : Ret (datatypesO S F rec d fr n) fun b m => b.wt + 1 + 3 * fr ≤ 3 * m := by
 unfold datatypesO
 exact ret_bind (rowO_wt F (dbindO_wt hrec) n) (fun l m hl => ret_ok (by simp only [wt_node, List.length_nil]; omega))
theorem specO_wt (n : Nat) : Ret (specO S F rec d n) fun b m => b.wt + 1 + 3 * n ≤ 3 * m := by
 unfold specO
 refine ret_if (fun h => ?_) (fun _ => ret_if (fun h => ?_) (fun _ => ret_if (fun h => ?_) (fun _ => ret_if (fun h => ?_) (fun _ => ?_))))
 ·refine ret_bind (value_wt (n + 1)) (fun x m hx => ?_)
  refine ret_bind (need_wt m) (fun _ m2 h2 => ?_)
  exact ret_bind (hrec .ty m2 trivial) (fun b m3 hb => ret_ok (by simp only [wt_node, wtL, List.length_singleton]; omega))
 ·refine ret_bind (typeNameO_wt (n + 1)) (fun x m hx => ret_if (fun h2 => ?_) (fun _ => ret_ok (by simp only [wt_node, wtL, List.length_singleton]; omega)))
  exact ret_bind (hrec .ty (m + 1) trivial) (fun b m3 hb => ret_ok (by simp only [wt_node, wtL, List.length_singleton]; omega))
 ·exact datatypesO_wt hrec (by omega)
 ·refine ret_bind (take_wt (n + 1)) (fun x m hx => ?_)
  refine ret_bind (need_wt m) (fun _ m2 h2 => ?_)
  exact ret_bind (hrec .sig m2 trivial) (fun b m3 hb => ret_ok (by simp only [wt_node, wtL, List.length_singleton]; omega))
 ·refine ret_bind (need_wt n) (fun _ m2 h2 => ?_)
  exact ret_bind (hrec .sig m2 trivial) (fun b m3 hb => ret_ok (by simp only [wt_node, wtL, List.length_nil]; omega))
theorem specsL_wt (p : Nat) : ∀ (f : Nat) (acc : List Pb) (n : Nat), wtL acc + acc.length + 3 * p ≤ 3 * n → Ret (specsL S F rec d f acc n) fun l m => wtL l + l.length + 3 * p ≤ 3 * m := by
 intro f
 induction f with
 | zero => intro acc n _; exact ret_dry
 | succ f ih =>
  intro acc n h
  unfold specsL
  refine ret_if (fun hc => ret_ok (by omega)) (fun _ => ret_if (fun hc => ih _ _ (by omega)) (fun _ => ?_))
  exact ret_bind (specO_wt hrec n) (fun b m hb => ih _ _ (by simp only [wtL_append, wtL, List.length_append, List.length_singleton]; omega))
theorem bareSigO_wt (n : Nat) : Ret (bareSigO S F rec d n) fun b m => b.wt + 1 + 3 * n ≤ 3 * m := by
 unfold bareSigO
 refine ret_if (fun h => ?_) (fun _ => ret_bind (take_wt n) (fun x m hx => ret_ok (by simp only [wt_node, wtL, List.length_singleton]; omega)))
 exact ret_bind (specsL_wt hrec (n + 1) F [] (n + 1) (by simp [wtL])) (fun l m hl => ret_ok (by simp only [wt_node, List.length_nil]; omega))
theorem whereL_wt (p : Nat) : ∀ (f : Nat) (b : Pb) (n : Nat), b.wt + 1 + 3 * p ≤ 3 * n → Ret (whereL S rec d p f b n) fun b m => b.wt + 1 + 3 * p ≤ 3 * m := by
 intro f
 induction f with
 | zero => intro b n _; exact ret_dry
 | succ f ih =>
  intro b n h
  unfold whereL
  refine ret_if (fun hc => ?_) (fun _ => ret_ok h)
  refine ret_bind (need_wt (n + 1)) (fun _ m h1 => ?_)
  refine ret_bind (typePath_wt m) (fun p m2 hp => ?_)
  refine ret_bind (need_wt m2) (fun _ m3 h3 => ?_)
  exact ret_bind (hrec .ty m3 trivial) (fun c m4 hb => ih _ _ (by simp only [wt_node, wtL]; omega))
theorem sigO_wt (n : Nat) : Ret (sigO S F rec d n) fun b m => b.wt + 1 + 3 * n ≤ 3 * m := by
 unfold sigO
 exact ret_bind (bareSigO_wt hrec n) (fun b m hb => whereL_wt hrec n F b m hb)
theorem bareStrO_wt (n : Nat) : Ret (bareStrO S F rec d n) fun b m => b.wt + 1 + 3 * n ≤ 3 * m := by
 unfold bareStrO
 refine ret_if (fun h => ?_) (fun _ => ret_if (fun h => ?_) (fun _ => ret_bind (path_wt n) (fun p m hp => ret_ok (by simp only [wt_node, wtL]; omega))))
 ·refine ret_bind (decsO_wt hrec 1 (n + 1)) (fun l m hl => ?_)
  exact ret_bind (need_wt m) (fun _ m2 h2 => ret_ok (by simp only [wt_node, List.length_nil]; omega))
 ·refine ret_bind (hrec .str (n + 2) trivial) (fun b m hb => ?_)
  exact ret_bind (need_wt m) (fun _ m2 h2 => ret_ok (by simp only [wt_node, wtL, List.length_singleton]; omega))
theorem sealL_wt (p : Nat) : ∀ (f : Nat) (b : Pb) (n : Nat), b.wt + 1 + 3 * p ≤ 3 * n → Ret (sealL S rec d p f b n) fun b m => b.wt + 1 + 3 * p ≤ 3 * m := by
 intro f
 induction f with
 | zero => intro b n _; exact ret_dry
 | succ f ih =>
  intro b n h
  unfold sealL
  refine ret_if (fun _ => ret_ok h) (fun hc => ?_)
  exact ret_bind (hrec .sig (n + 1) trivial) (fun s m hs => ih _ _ (by simp only [wt_marked, wt_node, wtL, List.length_nil]; omega))
theorem strO_wt (n : Nat) : Ret (strO S F rec d n) fun b m => b.wt + 1 + 3 * n ≤ 3 * m := by
 unfold strO
 exact ret_bind (bareStrO_wt hrec n) (fun b m hb => sealL_wt hrec n F b m hb)
theorem bodyO_wt (n : Nat) : Ret (bodyO S rec d n) fun l m => wtL l.2 + l.2.length + 3 * n ≤ 3 * m := by
 unfold bodyO
 refine ret_bind (P := fun l m => wtL l + l.length + 3 * n ≤ 3 * m) (ret_if (fun _ => ret_ok (by simp [wtL])) (fun hc => ?_)) (fun l m hl => ?_)
 ·exact ret_bind (hrec .sig (n + 1) trivial) (fun s m hs => ret_ok (by simp only [wtL, List.length_singleton]; omega))
 ·refine ret_bind (need_wt m) (fun _ m2 h2 => ?_)
  exact ret_bind (hrec .str m2 trivial) (fun b m3 hb => ret_ok (by simp only [wtL_append, wtL, List.length_append, List.length_singleton]; omega))
theorem structureO_wt {fr n : Nat} (hs : fr + 1 ≤ n) : Ret (structureO S rec d fr n) fun b m => b.wt + 1 + 3 * fr ≤ 3 * m := by
 unfold structureO
 refine ret_bind (take_wt n) (fun x m hx => ?_)
 exact ret_bind (bodyO_wt hrec m) (fun l m2 hl => ret_ok (by simp only [wt_marked, wt_node, List.length_singleton]; omega))
theorem functorO_wt {fr n : Nat} (hs : fr + 1 ≤ n) : Ret (functorO S rec d fr n) fun b m => b.wt + 1 + 3 * fr ≤ 3 * m := by
 unfold functorO
 refine ret_bind (take_wt n) (fun x m hx => ?_)
 refine ret_bind (need_wt m) (fun _ m2 h2 => ?_)
 refine ret_bind (take_wt m2) (fun y m3 hy => ?_)
 refine ret_bind (need_wt m3) (fun _ m4 h4 => ?_)
 refine ret_bind (hrec .sig m4 trivial) (fun g m5 hg => ?_)
 refine ret_bind (need_wt m5) (fun _ m6 h6 => ?_)
 exact ret_bind (bodyO_wt hrec m6) (fun l m7 hl => ret_ok (by simp only [wt_marked, wt_node, wtL_append, wtL, List.length_cons, List.length_nil]; omega))
theorem funL_wt (p : Nat) : ∀ (f : Nat) (acc : List Pb) (n : Nat), wtL acc + acc.length + 3 * p ≤ 3 * n → Ret (funL S F rec d f acc n) fun l m => wtL l + l.length + 3 * p ≤ 3 * m := by
 intro f
 induction f with
 | zero => intro acc n _; exact ret_dry
 | succ f ih =>
  intro acc n h
  unfold funL
  exact ret_if (fun _ => ret_bind (atomicPatO_wt hrec n) (fun b m hb => ih _ _ (by simp only [wtL_append, wtL, List.length_append, List.length_singleton]; omega))) (fun _ => ret_ok h)
theorem functionO_wt (n : Nat) : Ret (functionO S F rec d n) fun b m => b.wt + 1 + 3 * n ≤ 3 * m := by
 unfold functionO
 refine ret_bind (value_wt n) (fun x m hx => ?_)
 refine ret_bind (atomicPatO_wt hrec m) (fun b m2 hb => ?_)
 refine ret_bind (funL_wt hrec m F [b] m2 (by simp [wtL]; omega)) (fun l m3 hl => ?_)
 refine ret_bind (need_wt m3) (fun _ m4 h4 => ?_)
 exact ret_bind (hrec .exp m4 trivial) (fun e m5 he => ret_ok (by simp only [wt_node, wtL_append, wtL, List.length_singleton]; omega))
theorem localO_wt {fr n : Nat} (hs : fr + 1 ≤ n) (a : Nat) : Ret (localO S F rec d fr a n) fun b m => b.wt + 1 + 3 * fr ≤ 3 * m := by
 unfold localO
 refine ret_bind (withinO_wt hrec a n) (fun x m hx => ?_)
 refine ret_bind (need_wt m) (fun _ m2 h2 => ?_)
 refine ret_bind (withinO_wt hrec a m2) (fun y m3 hy => ?_)
 exact ret_bind (need_wt m3) (fun _ m4 h4 => ret_ok (by simp only [wt_node, wtL, List.length_nil]; omega))
theorem decO_wt (a n : Nat) : Ret (decO S F rec d a n) fun b m => b.wt + 1 + 3 * n ≤ 3 * m := by
 unfold decO
 refine ret_if (fun h => ?_) (fun q1 => ret_if (fun h => ?_) (fun q2 => ret_if (fun h => ?_) (fun q3 => ret_if (fun h => ?_) (fun q4 => ret_if (fun h => ?_) (fun q5 => ret_if (fun h => ?_) (fun q6 => ret_if (fun h => ?_) (fun q7 => ret_if (fun h => ?_) (fun q8 => ?_))))))))
 ·refine ret_bind (hrec .pat (n + 1) trivial) (fun p m hp => ?_)
  refine ret_bind (need_wt m) (fun _ m2 h2 => ?_)
  exact ret_bind (hrec .exp m2 trivial) (fun e m3 he => ret_ok (by simp only [wt_node, wtL, List.length_nil]; omega))
 ·exact ret_bind (rowO_wt F (functionO_wt hrec) (n + 1)) (fun l m hl => ret_ok (by simp only [wt_node, List.length_nil]; omega))
 ·refine ret_bind (typeNameO_wt (n + 1)) (fun x m hx => ?_)
  refine ret_bind (need_wt m) (fun _ m2 h2 => ?_)
  exact ret_bind (hrec .ty m2 trivial) (fun b m3 hb => ret_ok (by simp only [wt_node, wtL, List.length_singleton]; omega))
 ·exact datatypesO_wt hrec (by omega)
 ·exact structureO_wt hrec (by omega)
 ·refine ret_bind (take_wt (n + 1)) (fun x m hx => ?_)
  refine ret_bind (need_wt m) (fun _ m2 h2 => ?_)
  exact ret_bind (hrec .sig m2 trivial) (fun b m3 hb => ret_ok (by simp only [wt_node, wtL, List.length_singleton]; omega))
 ·exact functorO_wt hrec (by omega)
 ·exact ret_bind (path_wt (n + 1)) (fun p m hp => ret_ok (by simp only [wt_node, wtL]; omega))
 ·exact localO_wt hrec (by omega) a
end

theorem parts_wt : ∀ (f : Nat) (nt : Nt) (d n : Nat), S.may nt n → Ret (parts S f nt d n) fun b m => b.wt + 1 + 3 * n ≤ 3 * m := by
 intro f
 induction f with
 | zero => intro nt d n _; exact ret_dry
 | succ f ih =>
  intro nt d n hm
  unfold parts
  refine ret_if (fun _ => ret_deep) (fun _ => ?_)
  have hrec : ∀ nt k, S.may nt k → Ret (parts S f nt (d + 1) k) fun b m => b.wt + 1 + 3 * k ≤ 3 * m := fun nt k hk => ih nt (d + 1) k hk
  cases nt with
  | exp => exact expO_wt hrec n
  | pat => exact patO_wt hrec n
  | ty => exact tyO_wt hrec n
  | sig => exact sigO_wt hrec n
  | str => exact strO_wt hrec n
  | dec a => exact decO_wt hrec a n
theorem fileO_wt (F : Nat) : Ret (fileO S F 0) fun b m => b.wt ≤ 3 * m + 1 := by
 unfold fileO
 exact ret_bind (decsO_wt (F := F) (rec := parts S F) (d := 0) (fun nt k hk => parts_wt F nt 0 k hk) 2 0) (fun l m hl => ret_ok (by simp only [wt_node, List.length_nil]; omega))
end
end Go.Proofs.YtifoodfbgghplaaGreatDoor

namespace Go.Proofs.YtifoodfbgghplaaGreatDoor
open Go.RowKit
set_option maxRecDepth 20000
set_option linter.unusedVariables false
set_option linter.unusedSimpArgs false

/-- A source like this one, with another text's own tokens. -/
theorem src_eq {s : ByteArray} {S T : Src} (h1 : S.s = s) (h2 : S.ts = wordsT s) (h3 : T.s = s) (h4 : T.ts = wordsT s) : (∀ n, S.kd n = T.kd n) ∧ (∀ n, S.tx n = T.tx n) ∧ (∀ n, S.pl n = T.pl n) := by
 have e : S.ts = T.ts := h2.trans h4.symm
 have e2 : S.s = T.s := h1.trans h3.symm
 refine ⟨fun n => ?_, fun n => ?_, fun n => ?_⟩
 ·unfold Src.kd; rw [e]
 ·unfold Src.tx; rw [e, e2]
 ·unfold Src.pl; rw [e]
/-- What is known of a file's branch. -/
structure FileOk (s : ByteArray) (x : Pb) (n : Nat) : Prop where
 rt : x.Rt
 to : x.to ≤ (n : Int)
 wt : x.wt ≤ 3 * n + 1
 len : n ≤ s.size
theorem file_facts {S : Src} (g : S.Good) (T : S.ts = wordsT S.s) {x : Pb} {n : Nat} (h : wholeO S (fileS S) = .ok x n) : FileOk S.s x n := by
 have hn := whole_end g (pos_of S T) h
 unfold wholeO fileS at h
 cases hx : fileO S (fuel S) 0 with
 | ok y k =>
  rw [hx] at h
  simp only [Out.bind] at h
  cases hz : (S.kd k == 0)
  ·rw [hz] at h; cases h
  ·rw [hz] at h
   simp only [cond_true] at h
   injection h with e1 e2
   subst e1 e2
   have q := fileO_rt T (fuel S) y k hx
   have hl := (wordsI_in S.s).2
   have hw := congrArg List.length (words_end S.s)
   rw [List.length_append, List.length_singleton, ← T] at hw
   exact ⟨q.rt, q.hi, fileO_wt (fuel S) y k hx, by omega⟩
 | form k => rw [hx] at h; cases h
 | deep k => rw [hx] at h; cases h
 | dry => rw [hx] at h; cases h
/-- The first text is a file: the joined text's ending, by the second's. -/
theorem said_joined {s t u : ByteArray} (hu : u.data.toList = s.data.toList ++ (10 :: 59 :: 10 :: t.data.toList)) {w1 w1' w2 w2' w3 w3' : World} {e1 e2 e3 : Ending}
  (h1 : Said3 s w1 fileS e1 w1') (h2 : Said3 t w2 fileS e2 w2') (h3 : Said3 u w3 fileS e3 w3') :
  (∃ p k : Int, k ≠ 0 ∧ e1 = .returned (.tuple #[zeroV, .int .i64 p, .int .i64 k])) ∨
  (∃ v1, e1 = .returned (.tuple #[v1, .int .i64 0, .int .i64 0]) ∧ ∃ p q k : Int, k ≠ 0 ∧ e2 = .returned (.tuple #[zeroV, .int .i64 p, .int .i64 k]) ∧ e3 = .returned (.tuple #[zeroV, .int .i64 q, .int .i64 k]) ∧ (s.size : Int) < q) ∨
  (∃ v1 v2 v3, ∃ n1 n2 l1 l2, e1 = .returned (.tuple #[v1, .int .i64 0, .int .i64 0]) ∧ e2 = .returned (.tuple #[v2, .int .i64 0, .int .i64 0]) ∧ e3 = .returned (.tuple #[v3, .int .i64 0, .int .i64 0]) ∧
   RB w1 (node 1 0 n1 [] l1) v1 w1' ∧ RB w2 (node 1 0 n2 [] l2) v2 w2' ∧ RB w3 (node 1 0 (n2 + (n1 + 1)) [] (l1 ++ l2.map (Pb.on (n1 + 1)))) v3 w3' ∧ FileOk s (node 1 0 n1 [] l1) n1 ∧ FileOk t (node 1 0 n2 [] l2) n2 ∧ FileOk u (node 1 0 (n2 + (n1 + 1)) [] (l1 ++ l2.map (Pb.on (n1 + 1)))) (n2 + (n1 + 1))) := by
 obtain ⟨_, ⟨h0, he⟩ | ⟨h0, S1, s1, t1, g1, hc⟩⟩ := h1
 ·exact .inl ⟨_, _, h0, he⟩
 obtain ⟨x1, n1, v1, o1, e1', r1⟩ | ⟨n, _, he⟩ | ⟨n, _, he⟩ := hc
 rotate_left
 ·exact .inl ⟨_, _, by decide, he⟩
 ·exact .inl ⟨_, _, by decide, he⟩
 have hj := first_joined s t u hu h0
 have pos : ∀ (T : Src) n, 0 ≤ T.pl n := fun T n => by unfold Src.pl; cases T.ts[n]? <;> simp
 obtain ⟨_, ⟨k0, he2⟩ | ⟨k0, S2, s2, t2, g2, hc2⟩⟩ := h2
 ·refine .inr (.inl ⟨v1, e1', (firstN t).1, (firstN t).1 + s.size + 3, (firstN t).2, k0, he2, ?_⟩)
  obtain ⟨_, ⟨m0, he3⟩ | ⟨m0, _⟩⟩ := h3
  ·rw [hj] at he3
   refine ⟨he3, ?_⟩
   have : 0 ≤ (firstN t).1 := by
    rw [firstN_words]
    generalize wordsT t = l
    induction l with
    | nil => simp [firstT]
    | cons x r ih => simp only [firstT]; cases noBad x <;> simp [ih]
   omega
  ·rw [hj] at m0; exact absurd m0 k0
 ·obtain ⟨_, ⟨m0, _⟩ | ⟨_, S, s3, t3, g3, hc3⟩⟩ := h3
  ·rw [hj] at m0; exact absurd k0 m0
  have hu' : S.s.data.toList = S1.s.data.toList ++ (10 :: 59 :: 10 :: S2.s.data.toList) := by rw [s3, s1, s2]; exact hu
  have a1 : S1.ts = wordsT S1.s := by rw [s1]; exact t1
  have a2 : S2.ts = wordsT S2.s := by rw [s2]; exact t2
  have a3 : S.ts = wordsT S.s := by rw [s3]; exact t3
  have h0' : (firstN S1.s).2 = 0 := by rw [s1]; exact h0
  obtain ⟨x2, n2, v2, o2, e2', r2⟩ | ⟨m, o2, he2⟩ | ⟨m, o2, he2⟩ := hc2
  ·obtain ⟨l1, l2, q1, q2, q3⟩ := joined_ok g1 a1 a2 a3 hu' h0' o1 o2
   subst q1 q2
   obtain ⟨x3, n3, v3, o3, e3', r3⟩ | ⟨n, o3, _⟩ | ⟨n, o3, _⟩ := hc3
   ·rw [q3] at o3
    have F1 := file_facts g1 a1 o1
    have F2 := file_facts g2 a2 o2
    have F3 := file_facts g3 a3 q3
    rw [s1] at F1
    rw [s2] at F2
    rw [s3] at F3
    injection o3 with o3 _
    subst o3
    exact .inr (.inr ⟨v1, v2, v3, n1, n2, l1, l2, e1', e2', e3', r1, r2, r3, F1, F2, F3⟩)
   ·rw [q3] at o3; cases o3
   ·rw [q3] at o3; cases o3
  ·obtain ⟨q3, q4⟩ := joined_form g1 g2 a1 a2 a3 hu' h0' o1 o2
   have q4 := q4 (Inn.form_in g2 (pos_of S2 a2) o2)
   obtain ⟨x3, n3, v3, o3, _⟩ | ⟨n, o3, he3⟩ | ⟨n, o3, _⟩ := hc3
   ·rw [q3] at o3; cases o3
   ·rw [q3] at o3
    injection o3 with o3
    subst o3
    refine .inr (.inl ⟨v1, e1', _, _, _, by decide, he2, he3, ?_⟩)
    have := pos S2 m
    rw [q4, s1]; omega
   ·rw [q3] at o3; cases o3
  ·obtain ⟨q3, q4⟩ := joined_deep g1 g2 a1 a2 a3 hu' h0' o1 o2
   have q4 := q4 (Inn.deep_in g2 (pos_of S2 a2) o2)
   obtain ⟨x3, n3, v3, o3, _⟩ | ⟨n, o3, _⟩ | ⟨n, o3, he3⟩ := hc3
   ·rw [q3] at o3; cases o3
   ·rw [q3] at o3; cases o3
   ·rw [q3] at o3
    injection o3 with o3
    subst o3
    refine .inr (.inl ⟨v1, e1', _, _, _, by decide, he2, he3, ?_⟩)
    have := pos S2 m
    rw [q4, s1]; omega
end Go.Proofs.YtifoodfbgghplaaGreatDoor

namespace Go.Proofs.YtifoodfbgghplaaGreatDoor
open Go.RowKit
set_option maxRecDepth 20000
set_option linter.unusedVariables false
set_option linter.unusedSimpArgs false

/-- Two lists of numbers compared. -/
def sameI (a b : List Int) : Bool := a == b
theorem sameI_len {a b : List Int} (h : a.length ≠ b.length) : sameI a b = false := by
 unfold sameI; rw [beq_eq_false_iff_ne]; intro e; exact h (by rw [e])
theorem sameI_at {a b : List Int} {k : Nat} (h1 : k < a.length) (h2 : k < b.length) (h : a[k] ≠ b[k]) : sameI a b = false := by
 unfold sameI; rw [beq_eq_false_iff_ne]; intro e; subst e; exact h rfl
theorem sameI_all {a b : List Int} (h : a.length = b.length) (hall : ∀ i (h1 : i < a.length) (h2 : i < b.length), a[i] = b[i]) : sameI a b = true := by
 unfold sameI; rw [beq_iff_eq]; exact List.ext_getElem h hall
mutual
/-- A branch's rows are short, and those of its parts. -/
def Br.Few : Br → Prop
 | .mk h ks => h.ns.length ≤ 1000000 ∧ ks.length ≤ 1000000 ∧ FewAll ks
def FewAll : List Br → Prop
 | [] => True
 | b :: r => b.Few ∧ FewAll r
end
theorem fewAll_iff (ks : List Br) : FewAll ks ↔ ∀ b ∈ ks, b.Few := by
 induction ks with
 | nil => simp [FewAll]
 | cons x r ih => simp [FewAll, ih]
theorem wtL_mem {l : List Pb} {b : Pb} (h : b ∈ l) : b.wt ≤ wtL l := by
 induction l with
 | nil => cases h
 | cons x r ih =>
  simp only [wtL]
  rcases List.mem_cons.1 h with rfl | h
  ·omega
  ·have := ih h; omega
theorem wt_pos (b : Pb) : 1 ≤ b.wt := by cases b; simp only [Pb.wt]; omega
theorem wtL_len (l : List Pb) : l.length ≤ wtL l := by
 induction l with
 | nil => simp
 | cons x r ih => have := wt_pos x; simp only [wtL, List.length_cons]; omega
theorem few_of_wt (y : Br) : y.pb.wt ≤ 1000000 → y.Few := by
 induction y using Br.ind with
 | hP h ks ih =>
  intro hw
  simp only [Br.pb, Pb.wt, pbs_map] at hw
  have h1 := wtL_len (ks.map Br.pb)
  rw [List.length_map] at h1
  simp only [Br.Few, fewAll_iff]
  refine ⟨by omega, by omega, fun b hb => ih b hb ?_⟩
  have := wtL_mem (List.mem_map.2 ⟨b, hb, rfl⟩ : b.pb ∈ ks.map Br.pb)
  omega
/-- The six cells, from a block that holds them. -/
theorem brAt_new (w : World) (h : Hd) (t : TypeId) : BrAt (w.alloc (.cells #[.int .i64 h.k, .int .i64 h.m, .int .i64 h.f, .int .i64 h.t, .slice h.np h.nn h.nc, .slice h.kp h.kn h.kc] t)) w.heap.size 0 h := by
 have hb := heap_alloc_new w (.cells #[.int .i64 h.k, .int .i64 h.m, .int .i64 h.f, .int .i64 h.t, .slice h.np h.nn h.nc, .slice h.kp h.kn h.kc] t)
 refine ⟨?_, ?_, ?_, ?_, ?_, ?_⟩ <;> (rw [Lib.cell_of_heap hb]; rfl)
theorem BrAt.box {w : World} {b : Nat} {h : Hd} (hat : BrAt w b 0 h) : w.cell? ⟨b, 0, none⟩ = some (.int .i64 h.k) ∧ w.cell? ⟨b, 1, none⟩ = some (.int .i64 h.m) ∧ w.cell? ⟨b, 2, none⟩ = some (.int .i64 h.f) ∧
  w.cell? ⟨b, 3, none⟩ = some (.int .i64 h.t) ∧ w.cell? ⟨b, 4, none⟩ = some (.slice h.np h.nn h.nc) ∧ w.cell? ⟨b, 5, none⟩ = some (.slice h.kp h.kn h.kc) := by
 simpa [BrAt] using hat
abbrev Hd.obj (h : Hd) : Obj := .cells #[.int .i64 h.k, .int .i64 h.m, .int .i64 h.f, .int .i64 h.t, .slice h.np h.nn h.nc, .slice h.kp h.kn h.kc] 26
/-- What a branch's box gives: the world behind it. -/
theorem boxed (w : World) (b : Br) (hl : b.Lies w) : ∃ w1, w1 = w.alloc b.h.obj ∧ BrAt w1 w.heap.size 0 b.h ∧ b.Lies w1 ∧ Below w.heap.size w w1 ∧ w1.heap.size = w.heap.size + 1 :=
 ⟨_, rfl, brAt_new w b.h 26, hl.step _ ((Below.refl w.heap.size w).alloc (Nat.le_refl _) _), (Below.refl w.heap.size w).alloc (Nat.le_refl _) _, by simp⟩

set_option maxHeartbeats 1000000 in
theorem refInts_any (p : Option Addr) (n c : Nat) (l : List Int) (p' : Option Addr) (n' c' : Nat) (l' : List Int) (w : World) (h : InV mkI w p n c l) (h' : InV mkI w p' n' c' l') (hn : n ≤ 17592186044416) :
  Calls Tryz.prog 24 #[.slice p n c, .slice p' n' c'] w fun e w' => e = .returned (.bool (sameI l l')) ∧ Below w.heap.size w w' := by
 by_cases hln : n = n'
 ·subst hln
  have hl := h.1
  have hl' := h'.1
  have HA := Lib.hid h
  have HA' := Lib.hid h'
  have HL := Lib.hid hl
  have HL' := Lib.hid hl'
  clear h h' hl hl'
  have hnz : (0 : Int) ≤ (n : Int) := by omega
  go_enter Tryz.func24, Tryz.ntmps24
  go_wp2_with fail
  go_loopw [5] (fun i wr => ∃ k : Nat, k ≤ n ∧ i = .int .i64 k ∧ Hid (∀ i (h1 : i < l.length) (h2 : i < l'.length), i < k → l[i] = l'[i]) ∧ ∃ m, wr = w.drewN m) (fun i _ => n - (intOf i).toNat)
  case atStart => exact ⟨0, by omega, rfl, Lib.hid (fun i _ _ h => by omega), 0, rfl⟩
  case round =>
   obtain ⟨k, hk, rfl, HE, m, rfl⟩ := hrel
   by_cases hlt : k < n
   ·obtain ⟨b, off, rfl, hc1, hb, hat⟩ := HA.out.2.resolve_left (by omega)
    obtain ⟨b', off', rfl, hc1', hb', hat'⟩ := HA'.out.2.resolve_left (by omega)
    have hkl : k < l.length := by rw [← HL.out]; exact hlt
    have hkl' : k < l'.length := by rw [← HL'.out]; exact hlt
    have c0 : w.cell? ⟨b, off + k, none⟩ = some (.int .i64 l[k]) := hat k hkl
    have c1 : w.cell? ⟨b', off' + k, none⟩ = some (.int .i64 l'[k]) := hat' k hkl'
    have hk1 : (0 : Int) ≤ (k : Int) := by omega
    have hk2 : (k : Int) < (n : Int) := by omega
    by_cases heq : l[k] = l'[k]
    ·have HE2 : Hid (∀ i (h1 : i < l.length) (h2 : i < l'.length), i < k + 1 → l[i] = l'[i]) := Lib.hid fun i h1 h2 hi => by
      rcases Nat.lt_or_ge i k with h3 | h3
      ·exact HE.out i h1 h2 h3
      ·obtain rfl : i = k := by omega
       exact heq
     rw [← heq] at c1
     clear heq hat hat'
     generalize l[k] = t at *
     go_wp2
     go_quiet (fail)
     go_wp2
     go_roundw
     case rel => exact ⟨k + 1, by omega, by go_num, HE2, _, rfl⟩
     case measure => simp [intOf]; omega
    ·have HR := Lib.hid (sameI_at hkl hkl' heq)
     clear hat hat'
     have hne : (l[k] == l'[k]) = false := by rw [beq_eq_false_iff_ne]; exact heq
     generalize l[k] = t at *
     generalize l'[k] = t' at *
     go_wp2
     go_quiet (fail)
     go_wp2
     go_ret
     exact ⟨ret_bool HR.out.symm, below_drewN (below_drewN (Below.refl _ _) _) _⟩
   ·have HR : Hid (sameI l l' = true) := Lib.hid (sameI_all (by rw [← HL.out, ← HL'.out]) fun i h1 h2 => HE.out i h1 h2 (by rw [← HL.out] at h1; omega))
    go_wp2
    go_ret
    exact ⟨ret_bool HR.out.symm, below_drewN (Below.refl _ _) _⟩
 ·have HR : Hid (sameI l l' = false) := Lib.hid (sameI_len (by rw [← h.1, ← h'.1]; exact hln))
  have hne : ((n : Int) == (n' : Int)) = false := by rw [beq_eq_false_iff_ne]; omega
  clear h h'
  go_enter Tryz.func24, Tryz.ntmps24
  go_wp2
  go_ret
  exact ⟨ret_bool HR.out.symm, Below.refl _ _⟩
mutual
/-- Are two branches the same, part by part? -/
def Br.same : Br → Br → Bool
 | .mk h ks, b => decide (h.k = b.h.k) && (decide (h.m = b.h.m) && (decide (h.f = b.h.f) && (decide (h.t = b.h.t) && (sameI h.ns b.h.ns && (decide (ks.length = b.ks.length) && sames ks b.ks)))))
def sames : List Br → List Br → Bool
 | [], _ => true
 | x :: r, l => match l with
  | [] => true
  | y :: s => x.same y && sames r s
end
theorem same_eq (a b : Br) : a.same b = (decide (a.h.k = b.h.k) && (decide (a.h.m = b.h.m) && (decide (a.h.f = b.h.f) && (decide (a.h.t = b.h.t) && (sameI a.h.ns b.h.ns && (decide (a.ks.length = b.ks.length) && sames a.ks b.ks)))))) := by
 cases a; cases b; rfl

set_option maxHeartbeats 4000000 in
theorem refSame_any (a : Br) : ∀ (b : Br) (w : World), a.Lies w → b.Lies w → a.Few →
  Calls Tryz.prog 10 #[a.h.val, b.h.val] w fun e w' => e = .returned (.bool (a.same b)) ∧ Below w.heap.size w w' := by
 induction a using Br.ind with
 | hP h ks ih =>
  intro b w hl hl' hfit
  obtain ⟨w1, e1, c1, l1, b1, s1⟩ := boxed w _ hl
  obtain ⟨w2, e2, c2, l2, b2, s2⟩ := boxed w1 _ (hl'.step _ b1)
  have c1 := c1.step (by omega) b2
  have l1 := l1.step _ b2
  have b12 := b1.trans (b2.mono (by omega))
  obtain ⟨hnames, hkids, hall⟩ := (lies_iff _ _).1 l1
  obtain ⟨hnames', hkids', hall'⟩ := (lies_iff _ _).1 l2
  simp only [Br.Few, fewAll_iff] at hfit
  simp only [Br.h, Br.ks] at hnames hkids hall c1 e1 e2 ⊢
  have HR := Lib.hid (same_eq (.mk h ks) b)
  simp only [Br.h, Br.ks] at HR
  obtain ⟨g, js⟩ := b
  simp only [Br.h, Br.ks] at hnames' hkids' hall' c2 e2 HR ⊢
  obtain ⟨hk, hm, hf, ht, np, nn, nc, ns, kp, kn, kc⟩ := h
  obtain ⟨gk, gm, gf, gt, np', nn', nc', ns', kp', kn', kc'⟩ := g
  obtain ⟨hfit1, hlen, hfit2⟩ := hfit
  have hkn : kn = ks.length := hkids.1
  have hkn' : kn' = js.length := hkids'.1
  subst hkn hkn'
  simp only at hfit1 hnames hnames' hkids hkids' HR
  have HI1 := Lib.hid (refInts_any np nn nc ns np' nn' nc' ns' w2 hnames hnames' (by have := hnames.1; omega))
  have HK := Lib.hid hkids
  have HK' := Lib.hid hkids'
  have HL := Lib.hid hall
  have HL' := Lib.hid hall'
  have HI := Lib.hid ih
  have HF2 := Lib.hid hfit2
  have HB := Lib.hid b12
  have HC1 := Lib.hid c1
  have HC2 := Lib.hid c2
  have S1 := Lib.hid s1
  have S2 := Lib.hid s2
  have E2 := Lib.hid e2
  subst e1
  generalize (Br.mk ⟨hk, hm, hf, ht, np, nn, nc, ns, kp, ks.length, kc⟩ ks).same (Br.mk ⟨gk, gm, gf, gt, np', nn', nc', ns', kp', js.length, kc'⟩ js) = q at *
  generalize sameI ns ns' = qi at *
  clear hnames hnames' hkids hkids' hall hall' ih hfit2 b12 c1 c2 l1 l2 b1 b2 hl hl' hfit1 s1 s2 e2
  by_cases h1 : hk = gk
  ·by_cases h2 : hm = gm
   ·by_cases h3 : hf = gf
    ·by_cases h4 : ht = gt
     ·subst h1 h2 h3 h4
      simp only [decide_true, Bool.true_and] at HR
      cases hqi : qi
      ·have hq : q = false := by rw [HR.out, hqi]; rfl
       subst hq
       rw [hqi] at HI1
       go_enter Tryz.func10, Tryz.ntmps10
       go_wp2_with fail
       rw [← E2.out]
       refine HI1.out.mono ?_
       rintro e w3 ⟨rfl, hb3⟩
       have HB3 := Lib.hid (HB.out.trans (hb3.mono HB.out.size))
       clear hb3
       go_wp2_with fail
       go_ret
       exact ⟨rfl, HB3.out⟩
      ·rw [hqi] at HI1
       by_cases h5 : ks.length = js.length
       ·have HR2 : Hid (q = sames (ks.drop 0) (js.drop 0)) := Lib.hid (by rw [HR.out, hqi]; simp [h5])
        have H5 := Lib.hid h5
        have hlj : ((ks.length : Int) == (js.length : Int)) = true := by rw [beq_iff_eq]; omega
        have hlj2 : ((ks.length : Int) != (js.length : Int)) = false := by simp [h5]
        clear HR h5
        go_enter Tryz.func10, Tryz.ntmps10
        go_wp2_with fail
        rw [← E2.out]
        refine HI1.out.mono ?_
        rintro e w3 ⟨rfl, hb3⟩
        have HB3 := Lib.hid hb3
        have hs2 := HB.out.size
        have hz3 := hb3.size
        have hz1 := S1.out
        have hz2 := S2.out
        obtain ⟨_, _, _, _, _, a5⟩ := (HC1.out.step (by omega) hb3).box
        obtain ⟨_, _, _, _, _, d5⟩ := (HC2.out.step (by omega) hb3).box
        rw [hz1] at d5
        clear hb3
        go_wp2_with fail
        go_loopw [5] (fun iv wr => ∃ i : Nat, i ≤ ks.length ∧ iv = .int .i64 i ∧ Hid (q = sames (ks.drop i) (js.drop i)) ∧ Below w3.heap.size w3 wr) (fun iv _ => ks.length - (intOf iv).toNat)
        case atStart => exact ⟨0, by omega, rfl, HR2, Below.refl _ _⟩
        case round =>
         obtain ⟨i, hi, rfl, HQ, hbe⟩ := hrel
         have t5 := (hbe.cell (p := ⟨w.heap.size, _, none⟩) (by show w.heap.size < w3.heap.size; omega)).trans a5
         have u5 := (hbe.cell (p := ⟨w.heap.size + 1, _, none⟩) (by show w.heap.size + 1 < w3.heap.size; omega)).trans d5
         have hz := hbe.size
         by_cases hlt : i < ks.length
         ·have hlt' : i < js.length := by rw [← H5.out]; exact hlt
          have hb3e := HB3.out.trans (hbe.mono hz3)
          obtain ⟨bx, ox, rfl, _, hbx, hatx⟩ := (HK.out.step hb3e).2.resolve_left (by omega)
          obtain ⟨bY, oY, rfl, _, hbY, hatY⟩ := (HK'.out.step hb3e).2.resolve_left (by omega)
          obtain ⟨x0, x1, x2, x3, x4, x5⟩ := hatx i hlt
          obtain ⟨y0, y1, y2, y3, y4, y5⟩ := hatY i hlt'
          have hmem := List.getElem_mem hlt
          have hmem' := List.getElem_mem hlt'
          have HX := Lib.hid (HI.out ks[i] hmem js[i] wr.drew (((HL.out _ hmem).step _ hb3e).step _ (Below.refl _ _).drew) (((HL'.out _ hmem').step _ hb3e).step _ (Below.refl _ _).drew) (HF2.out _ hmem))
          have HD : Hid (q = (ks[i].same js[i] && sames (ks.drop (i + 1)) (js.drop (i + 1)))) := Lib.hid (by
           rw [HQ.out, List.drop_eq_getElem_cons hlt, List.drop_eq_getElem_cons hlt']; simp only [sames])
          have hr1 : (0 : Int) ≤ (i : Int) := by omega
          have hr2 : (i : Int) < (ks.length : Int) := by omega
          have hr3 : (i : Int) < (js.length : Int) := by omega
          have HBE := Lib.hid hbe
          have hwn : w.heap.size < wr.heap.size := by omega
          have hwn1 : w.heap.size + 1 < wr.heap.size := by omega
          clear hatx hatY hmem hmem' hbe hb3e a5 d5 HK HK' HL HL' HI HF2 HQ H5 HI1 HC1 HC2 S1 S2 E2
          generalize ks[i] = x at *
          generalize js[i] = y at *
          cases hxy : x.same y
          ·have hq : q = false := by rw [HD.out, hxy]; rfl
           subst hq
           rw [hxy] at HX
           clear HD hxy
           go_wp2_with fail
           go_region_held3 (fun w' => w'.cell? ⟨w.heap.size, 5, none⟩ = some (.slice (some ⟨bx, ox, none⟩) ks.length kc) ∧ w'.cell? ⟨w.heap.size + 1, 5, none⟩ = some (.slice (some ⟨bY, oY, none⟩) js.length kc') ∧ w'.cell? ⟨bx, ox + i * 6, none⟩ = some (.int .i64 x.h.k) ∧ w'.cell? ⟨bx, ox + i * 6 + 1, none⟩ = some (.int .i64 x.h.m) ∧ w'.cell? ⟨bx, ox + i * 6 + 2, none⟩ = some (.int .i64 x.h.f) ∧ w'.cell? ⟨bx, ox + i * 6 + 3, none⟩ = some (.int .i64 x.h.t) ∧ w'.cell? ⟨bx, ox + i * 6 + 4, none⟩ = some (.slice x.h.np x.h.nn x.h.nc) ∧ w'.cell? ⟨bx, ox + i * 6 + 5, none⟩ = some (.slice x.h.kp x.h.kn x.h.kc) ∧ w'.cell? ⟨bY, oY + i * 6, none⟩ = some (.int .i64 y.h.k) ∧ w'.cell? ⟨bY, oY + i * 6 + 1, none⟩ = some (.int .i64 y.h.m) ∧ w'.cell? ⟨bY, oY + i * 6 + 2, none⟩ = some (.int .i64 y.h.f) ∧ w'.cell? ⟨bY, oY + i * 6 + 3, none⟩ = some (.int .i64 y.h.t) ∧ w'.cell? ⟨bY, oY + i * 6 + 4, none⟩ = some (.slice y.h.np y.h.nn y.h.nc) ∧ w'.cell? ⟨bY, oY + i * 6 + 5, none⟩ = some (.slice y.h.kp y.h.kn y.h.kc)) (go_keep) ((first | (go_at_call 10; refine HX.out.mono ?_; rintro e w4 ⟨rfl, hb4⟩; have z0 := (hb4.cell (p := ⟨w.heap.size, _, none⟩) hwn).trans t5; have z1 := (hb4.cell (p := ⟨w.heap.size + 1, _, none⟩) hwn1).trans u5; have z2 := (hb4.cell (p := ⟨bx, _, none⟩) hbx).trans x0; have z3 := (hb4.cell (p := ⟨bx, _, none⟩) hbx).trans x1; have z4 := (hb4.cell (p := ⟨bx, _, none⟩) hbx).trans x2; have z5 := (hb4.cell (p := ⟨bx, _, none⟩) hbx).trans x3; have z6 := (hb4.cell (p := ⟨bx, _, none⟩) hbx).trans x4; have z7 := (hb4.cell (p := ⟨bx, _, none⟩) hbx).trans x5; have z8 := (hb4.cell (p := ⟨bY, _, none⟩) hbY).trans y0; have z9 := (hb4.cell (p := ⟨bY, _, none⟩) hbY).trans y1; have z10 := (hb4.cell (p := ⟨bY, _, none⟩) hbY).trans y2; have z11 := (hb4.cell (p := ⟨bY, _, none⟩) hbY).trans y3; have z12 := (hb4.cell (p := ⟨bY, _, none⟩) hbY).trans y4; have z13 := (hb4.cell (p := ⟨bY, _, none⟩) hbY).trans y5)))
           have hb4' : Below wr.heap.size wr w4 := ((Below.refl _ _).drew).trans hb4
           have HB4 := Lib.hid (HB.out.trans ((HB3.out.trans (HBE.out.mono hz3)).mono HB.out.size |>.trans (hb4'.mono (by show w.heap.size ≤ wr.heap.size; omega))))
           clear hb4 hb4'
           go_wp2_with fail
           go_ret
           exact ⟨by first | trivial | rfl, HB4.out⟩
          ·have HD2 : Hid (q = sames (ks.drop (i + 1)) (js.drop (i + 1))) := Lib.hid (by rw [HD.out, hxy]; rfl)
           rw [hxy] at HX
           clear HD hxy
           go_wp2_with fail
           go_region_held3 (fun w' => w'.cell? ⟨w.heap.size, 5, none⟩ = some (.slice (some ⟨bx, ox, none⟩) ks.length kc) ∧ w'.cell? ⟨w.heap.size + 1, 5, none⟩ = some (.slice (some ⟨bY, oY, none⟩) js.length kc') ∧ w'.cell? ⟨bx, ox + i * 6, none⟩ = some (.int .i64 x.h.k) ∧ w'.cell? ⟨bx, ox + i * 6 + 1, none⟩ = some (.int .i64 x.h.m) ∧ w'.cell? ⟨bx, ox + i * 6 + 2, none⟩ = some (.int .i64 x.h.f) ∧ w'.cell? ⟨bx, ox + i * 6 + 3, none⟩ = some (.int .i64 x.h.t) ∧ w'.cell? ⟨bx, ox + i * 6 + 4, none⟩ = some (.slice x.h.np x.h.nn x.h.nc) ∧ w'.cell? ⟨bx, ox + i * 6 + 5, none⟩ = some (.slice x.h.kp x.h.kn x.h.kc) ∧ w'.cell? ⟨bY, oY + i * 6, none⟩ = some (.int .i64 y.h.k) ∧ w'.cell? ⟨bY, oY + i * 6 + 1, none⟩ = some (.int .i64 y.h.m) ∧ w'.cell? ⟨bY, oY + i * 6 + 2, none⟩ = some (.int .i64 y.h.f) ∧ w'.cell? ⟨bY, oY + i * 6 + 3, none⟩ = some (.int .i64 y.h.t) ∧ w'.cell? ⟨bY, oY + i * 6 + 4, none⟩ = some (.slice y.h.np y.h.nn y.h.nc) ∧ w'.cell? ⟨bY, oY + i * 6 + 5, none⟩ = some (.slice y.h.kp y.h.kn y.h.kc)) (go_keep) ((first | (go_at_call 10; refine HX.out.mono ?_; rintro e w4 ⟨rfl, hb4⟩; have z0 := (hb4.cell (p := ⟨w.heap.size, _, none⟩) hwn).trans t5; have z1 := (hb4.cell (p := ⟨w.heap.size + 1, _, none⟩) hwn1).trans u5; have z2 := (hb4.cell (p := ⟨bx, _, none⟩) hbx).trans x0; have z3 := (hb4.cell (p := ⟨bx, _, none⟩) hbx).trans x1; have z4 := (hb4.cell (p := ⟨bx, _, none⟩) hbx).trans x2; have z5 := (hb4.cell (p := ⟨bx, _, none⟩) hbx).trans x3; have z6 := (hb4.cell (p := ⟨bx, _, none⟩) hbx).trans x4; have z7 := (hb4.cell (p := ⟨bx, _, none⟩) hbx).trans x5; have z8 := (hb4.cell (p := ⟨bY, _, none⟩) hbY).trans y0; have z9 := (hb4.cell (p := ⟨bY, _, none⟩) hbY).trans y1; have z10 := (hb4.cell (p := ⟨bY, _, none⟩) hbY).trans y2; have z11 := (hb4.cell (p := ⟨bY, _, none⟩) hbY).trans y3; have z12 := (hb4.cell (p := ⟨bY, _, none⟩) hbY).trans y4; have z13 := (hb4.cell (p := ⟨bY, _, none⟩) hbY).trans y5)))
           have hb4' : Below wr.heap.size wr w4 := ((Below.refl _ _).drew).trans hb4
           have HB4 := Lib.hid (HBE.out.trans (hb4'.mono hz))
           clear hb4 hb4'
           go_wp2_with fail
           go_roundw
           case rel => exact ⟨i + 1, by omega, by go_num, HD2, HB4.out⟩
           case measure => simp [intOf]; omega
         ·have hq : q = true := by rw [HQ.out, List.drop_eq_nil_of_le (by omega)]; simp only [sames]
          subst hq
          have HBE := Lib.hid (HB.out.trans ((HB3.out.trans (hbe.mono hz3)).mono HB.out.size))
          clear hbe
          go_wp2_with fail
          go_ret
          exact ⟨by first | trivial | rfl, HBE.out⟩
       ·have hq : q = false := by rw [HR.out, hqi]; simp [h5]
        subst hq
        have hlj : ((ks.length : Int) == (js.length : Int)) = false := by rw [beq_eq_false_iff_ne]; omega
        go_enter Tryz.func10, Tryz.ntmps10
        go_wp2_with fail
        rw [← E2.out]
        refine HI1.out.mono ?_
        rintro e w3 ⟨rfl, hb3⟩
        have HB3 := Lib.hid (HB.out.trans (hb3.mono HB.out.size))
        have hz1 := S1.out
        have hz2 := S2.out
        obtain ⟨_, _, _, _, _, a5⟩ := (HC1.out.step (by omega) hb3).box
        obtain ⟨_, _, _, _, _, d5⟩ := (HC2.out.step (by omega) hb3).box
        rw [hz1] at d5
        clear hb3
        go_wp2_with fail
        go_ret
        exact ⟨by first | trivial | rfl, HB3.out⟩
     ·subst h1 h2 h3
      have hq : q = false := by rw [HR.out]; simp [h4]
      subst hq
      have hne : (ht == gt) = false := by rw [beq_eq_false_iff_ne]; exact h4
      go_enter Tryz.func10, Tryz.ntmps10
      go_wp2_with fail
      go_ret
      exact ⟨by first | trivial | rfl, by have := HB.out; rw [E2.out] at this; exact this⟩
    ·subst h1 h2
     have hq : q = false := by rw [HR.out]; simp [h3]
     subst hq
     have hne : (hf == gf) = false := by rw [beq_eq_false_iff_ne]; exact h3
     go_enter Tryz.func10, Tryz.ntmps10
     go_wp2_with fail
     go_ret
     exact ⟨by first | trivial | rfl, by have := HB.out; rw [E2.out] at this; exact this⟩
   ·subst h1
    have hq : q = false := by rw [HR.out]; simp [h2]
    subst hq
    have hne : (hm == gm) = false := by rw [beq_eq_false_iff_ne]; exact h2
    go_enter Tryz.func10, Tryz.ntmps10
    go_wp2_with fail
    go_ret
    exact ⟨by first | trivial | rfl, by have := HB.out; rw [E2.out] at this; exact this⟩
  ·have hq : q = false := by rw [HR.out]; simp [h1]
   subst hq
   have hne : (hk == gk) = false := by rw [beq_eq_false_iff_ne]; exact h1
   go_enter Tryz.func10, Tryz.ntmps10
   go_wp2_with fail
   go_ret
   exact ⟨by first | trivial | rfl, by have := HB.out; rw [E2.out] at this; exact this⟩
end Go.Proofs.YtifoodfbgghplaaGreatDoor

namespace Go.Proofs.YtifoodfbgghplaaGreatDoor
open Go.RowKit
set_option maxRecDepth 20000
set_option linter.unusedVariables false
set_option linter.unusedSimpArgs false

theorem chain_mem {f t : Int} : ∀ {l : List Pb}, ChainP f t l → ∀ b ∈ l, b.Rt ∧ f ≤ b.fr ∧ b.to ≤ t := by
 intro l
 induction l generalizing f with
 | nil => intro _ b hb; cases hb
 | cons x r ih =>
  intro h b hb
  simp only [ChainP] at h
  have h2 := h.2.2.le
  have h1 := h.1.le
  rcases List.mem_cons.1 hb with rfl | hb
  ·exact ⟨h.1, h.2.1, h2⟩
  ·obtain ⟨a1, a2, a3⟩ := ih h.2.2 b hb
   exact ⟨a1, by omega, a3⟩
/-- What is kept while a branch is moved: its box (new names, new kids), the result's box. -/
structure Mv (w : World) (k m f t : Int) (v : Value) (l : List Int) (vk : Value) (ys : List Br) (W : World) : Prop where
 box : W.heap[w.heap.size]? = some (.cells #[.int .i64 k, .int .i64 m, .int .i64 f, .int .i64 t, v, vk] 26 (0, 0))
 res : W.heap[w.heap.size + 1]? = some boxZ
 below : Below w.heap.size w W
 own : W.ownsRow (w.heap.size + 2) 3 1 v l.length (l.map mkI)
 kids : W.ownsRow (w.heap.size + 2) 26 6 vk ys.length (cellsK ys)
 kk : Kids (w.heap.size + 2) vk W ys
section
variable {w W W' : World} {k m f t : Int} {v vk : Value} {l : List Int} {ys : List Br}
theorem Mv.lt (h : Mv w k m f t v l vk ys W) : w.heap.size + 2 ≤ W.heap.size := by
 have := (Array.getElem?_eq_some_iff.1 h.res).1; omega
theorem Mv.step (h : Mv w k m f t v l vk ys W) (hb : Below W.heap.size W W') : Mv w k m f t v l vk ys W' :=
 ⟨(hb.block _ (Array.getElem?_eq_some_iff.1 h.box).1).trans h.box, (hb.block _ (Array.getElem?_eq_some_iff.1 h.res).1).trans h.res, h.below.trans (hb.mono h.below.size), ownsRow_below h.own hb, ownsRow_below h.kids hb, h.kk.step hb⟩
/-- A name more. -/
theorem Mv.name (h : Mv w k m f t v l (.slice none 0 0) [] W) {W1 : World} {v1 : Value} {l1 : List Int} (ho : W1.ownsRow (w.heap.size + 2) 3 1 v1 l1.length (l1.map mkI)) (hg : W.grownBy W1 v.ownBlock) :
  Mv w k m f t v1 l1 (.slice none 0 0) [] (W1.setCell ⟨w.heap.size, 4, none⟩ v1) := by
 have hs := grown_set (w := W1) w.heap.size 4 v1
 have hv : ∀ q, v.ownBlock = some q → w.heap.size + 2 ≤ q := fun q hq => (h.own.lt q hq).1
 have hB : W1.heap[w.heap.size]? = some (.cells #[.int .i64 k, .int .i64 m, .int .i64 f, .int .i64 t, v, .slice none 0 0] 26 (0, 0)) :=
  (hg.block _ (Array.getElem?_eq_some_iff.1 h.box).1 (fun e => by have := hv _ e.symm; omega)).trans h.box
 have hR : W1.heap[w.heap.size + 1]? = some boxZ :=
  (hg.block _ (Array.getElem?_eq_some_iff.1 h.res).1 (fun e => by have := hv _ e.symm; omega)).trans h.res
 have hz := h.below.size
 refine ⟨?_, ?_, ?_, ?_, World.ownsRow_nil _ _ _ _, fun y hy => by cases hy⟩
 ·rw [heap_setCell_same W1 _ 4 _ _ v1 hB]; rfl
 ·exact (hs.block _ (Array.getElem?_eq_some_iff.1 hR).1 (fun e => by have := Option.some.inj e; omega)).trans hR
 ·exact (h.below.grown hg hz (fun q hq => by have := hv q hq; omega)).grown hs (Nat.le_trans hz hg.size) (fun q hq => by have := Option.some.inj hq; omega)
 ·exact ho.kept hs (Or.inr (fun e => by have := (ho.lt _ e).1; omega))
/-- A kid more. -/
theorem Mv.kid (h : Mv w k m f t v l vk ys W) {W3 W5 : World} {o : Obj} {v5 : Value} {g5 : Nat} {y : Br} (h3 : Below W.heap.size W W3) (hyl : y.Lies W3) (hyo : y.On fun q => W.heap.size ≤ q)
  (ho : W5.ownsRow (w.heap.size + 2) 26 6 v5 (ys ++ [y]).length (cellsK (ys ++ [y]))) (hg : (W3.alloc o).grownBy W5 vk.ownBlock) (hat : vk.ownBlock = some g5 ∨ g5 = W3.heap.size + 1) (h5 : v5.ownBlock = some g5) :
  Mv w k m f t v l v5 (ys ++ [y]) (W5.setCell ⟨w.heap.size, 5, none⟩ v5) := by
 have hh := (h.step h3).step ((Below.refl W3.heap.size W3).alloc (Nat.le_refl _) o)
 have hs := grown_set (w := W5) w.heap.size 5 v5
 have hv : ∀ q, vk.ownBlock = some q → w.heap.size + 2 ≤ q := fun q hq => (h.kids.lt q hq).1
 have hB : W5.heap[w.heap.size]? = some (.cells #[.int .i64 k, .int .i64 m, .int .i64 f, .int .i64 t, v, vk] 26 (0, 0)) :=
  (hg.block _ (Array.getElem?_eq_some_iff.1 hh.box).1 (fun e => by have := hv _ e.symm; omega)).trans hh.box
 have hR : W5.heap[w.heap.size + 1]? = some boxZ :=
  (hg.block _ (Array.getElem?_eq_some_iff.1 hh.res).1 (fun e => by have := hv _ e.symm; omega)).trans hh.res
 have hz := hh.below.size
 have hK : Kids (w.heap.size + 2) v5 W5 (ys ++ [y]) := kids_append (wr := W) (w3 := W3) (o := o) (h.kk.step h3) (fun q hq => (h.kids.lt q hq).2) h.lt h3.size hg hat h5 hyl hyo
 refine ⟨?_, ?_, ?_, ?_, ?_, hK.grow hs (by omega)⟩
 ·rw [heap_setCell_same W5 _ 5 _ _ v5 hB]; rfl
 ·exact (hs.block _ (Array.getElem?_eq_some_iff.1 hR).1 (fun e => by have := Option.some.inj e; omega)).trans hR
 ·exact (hh.below.grown hg hz (fun q hq => by have := hv q hq; omega)).grown hs (Nat.le_trans hz hg.size) (fun q hq => by have := Option.some.inj hq; omega)
 ·have h1 : W5.ownsRow (w.heap.size + 2) 3 1 v l.length (l.map mkI) := by
   refine hh.own.kept hg ?_
   cases hq : vk.ownBlock with
   | none =>
    cases hq2 : v.ownBlock with
    | none => exact Or.inl rfl
    | some q => exact Or.inr (by simp)
   | some q => exact Or.inr (fun e => own_ne h.kids h.own (by decide) hq (by first | exact e | exact e.symm))
  exact h1.kept hs (Or.inr (fun e => by have := (h1.lt _ e).1; omega))
 ·exact ho.kept hs (Or.inr (fun e => by have := (ho.lt _ e).1; omega))
/-- What is handed back. -/
theorem Mv.ret (h : Mv w k m f t v l vk ys W) {w' : World} (hb : Below W.heap.size W w' ∨ W.grownBy w' (some (w.heap.size + 1))) : RB w (.mk k m f t l (ys.map Br.pb)) (.agg #[.int .i64 k, .int .i64 m, .int .i64 f, .int .i64 t, v, vk]) w' := by
 have hg : W.grownBy w' (some (w.heap.size + 1)) := hb.elim (fun h => grown_below h _) id
 have ho := h.own.kept hg (Or.inr (fun e => by have := (h.own.lt _ e).1; omega))
 have hk := h.kids.kept hg (Or.inr (fun e => by have := (h.kids.lt _ e).1; omega))
 have hK := h.kk.grow hg (by omega)
 obtain ⟨np, nc, rfl, hin⟩ := in_of_row ho rfl
 obtain ⟨kp, kc, rfl, hkin⟩ := kids_of_own hk rfl
 refine ⟨.mk ⟨k, m, f, t, np, l.length, nc, l, kp, ys.length, kc⟩ ys, rfl, ?_, ?_, ?_⟩
 ·rw [lies_iff]
  exact ⟨hin, hkin, fun x hx => (hK x hx).1⟩
 ·rw [on_iff]
  refine ⟨fun a h1 h2 => ?_, fun a h1 h2 => ?_, fun x hx => (hK x hx).2.mono (fun q hq => by have := hq.1; omega) _⟩
  ·have h2 : np = some a := h2
   subst h2
   have := (ho.lt a.block (by simp [Value.ownBlock])).1
   omega
  ·have h2 : kp = some a := h2
   subst h2
   have := (hk.lt a.block (by simp [Value.ownBlock])).1
   omega
 ·simp [Br.pb, pbs_map]
end

theorem mv_init (w : World) (k m f t : Int) (v vk : Value) (nq : Nat) :
  Mv w k m f t (.slice none 0 0) [] (.slice none 0 0) [] (((((w.alloc (.cells #[.int .i64 k, .int .i64 m, .int .i64 f, .int .i64 t, v, vk] 26)).alloc boxZ).drewN nq).setCell ⟨w.heap.size, 4, none⟩ (.slice none 0 0)).setCell ⟨w.heap.size, 5, none⟩ (.slice none 0 0)) := by
 have h1 := heap_alloc_new w (.cells #[.int .i64 k, .int .i64 m, .int .i64 f, .int .i64 t, v, vk] 26)
 have b1 : Below w.heap.size w (w.alloc (.cells #[.int .i64 k, .int .i64 m, .int .i64 f, .int .i64 t, v, vk] 26)) := (Below.refl _ _).alloc (Nat.le_refl _) _
 generalize hA : w.alloc (.cells #[.int .i64 k, .int .i64 m, .int .i64 f, .int .i64 t, v, vk] 26) = A at *
 have hz : A.heap.size = w.heap.size + 1 := by rw [← hA]; simp
 have h2 := heap_alloc_new A boxZ
 have b2 : Below A.heap.size A (A.alloc boxZ) := (Below.refl _ _).alloc (Nat.le_refl _) _
 have h3 := (b2.block _ (by omega)).trans h1
 have b3 := below_drewN (b1.trans (b2.mono b1.size)) nq
 generalize hB : (A.alloc boxZ).drewN nq = B at *
 have h4 : B.heap[w.heap.size]? = some (.cells #[.int .i64 k, .int .i64 m, .int .i64 f, .int .i64 t, v, vk] 26 (0, 0)) := by rw [← hB]; exact h3
 have h5 : B.heap[w.heap.size + 1]? = some boxZ := by rw [← hB, ← hz]; exact h2
 have hs1 := grown_set (w := B) w.heap.size 4 (.slice none 0 0)
 have e1 := heap_setCell_same B _ 4 _ _ (.slice none 0 0) h4
 have hs2 := grown_set (w := B.setCell ⟨w.heap.size, 4, none⟩ (.slice none 0 0)) w.heap.size 5 (.slice none 0 0)
 have hs := grown_trans hs1 hs2
 refine ⟨?_, ?_, ?_, World.ownsRow_nil _ _ _ _, World.ownsRow_nil _ _ _ _, fun y hy => by cases hy⟩
 ·rw [heap_setCell_same _ _ 5 _ _ (.slice none 0 0) e1]; rfl
 ·exact (hs.block _ (Array.getElem?_eq_some_iff.1 h5).1 (fun e => by have := Option.some.inj e; omega)).trans h5
 ·exact b3.grown hs (by have := (Array.getElem?_eq_some_iff.1 h4).1; omega) (fun q hq => by have := Option.some.inj hq; omega)
theorem one_news {w : World} {x : Value} {t : TypeId} : ∀ j u, ([x] : List Value)[j]? = some u → (w.alloc (.cells #[x] t)).cell? ((⟨w.heap.size, 0, none⟩ : Addr).add j) = some u := World.news_of_block (heap_alloc_new w (.cells #[x] t))
set_option maxHeartbeats 4000000 in
theorem moved_any (y : Br) : ∀ (c : Nat) (w : World), y.Lies w → y.Few → y.pb.Rt → y.pb.to ≤ 1000000 → c ≤ 1000000 →
  Calls Tryz.prog 19 #[y.h.val, .int .i64 (c : Int)] w fun e w' => ∃ v, e = .returned v ∧ RB w (y.pb.on c) v w' ∧ Below w.heap.size w w' := by
 induction y using Br.ind with
 | hP h ks ih =>
  intro c w hl hfew hrt hto hc
  obtain ⟨i0, hi0, hy0, hy1, hy2⟩ := info_parts info3
  obtain ⟨j0, hj0, hj1, hj2, hj3⟩ := info_parts info26b
  simp only [Br.Few, fewAll_iff] at hfew
  obtain ⟨hf1, hf2, hf3⟩ := hfew
  obtain ⟨hnames, hkids, hall⟩ := (lies_iff _ _).1 hl
  obtain ⟨hk, hm, hf, ht, np, nn, nc, ns, kp, kn, kc⟩ := h
  simp only [Br.h, Br.ks] at hnames hkids hall hf1 ⊢
  simp only [Br.pb, pbs_map, Pb.Rt, Pb.to] at hrt hto
  obtain ⟨hk0, hr0, hr1, hr2, hr3⟩ := hrt
  have hnn : nn = ns.length := hnames.1
  have hkn : kn = ks.length := hkids.1
  subst hnn hkn
  obtain ⟨cc, hcc⟩ : ∃ cc : Int, cc = (c : Int) := ⟨_, rfl⟩
  have hcn : (0 : Int) ≤ cc := by omega
  have hcx : cc ≤ 1000000 := by omega
  rw [← hcc]
  have HCC := Lib.hid hcc
  have HN := Lib.hid hnames
  have HK := Lib.hid hkids
  have HA := Lib.hid hall
  have HR2 := Lib.hid hr2
  have HR3 := Lib.hid hr3
  have HI := Lib.hid ih
  have HF3 := Lib.hid hf3
  have HC := Lib.hid hc
  have HRZ := Lib.hid hr0
  have hft : hf ≤ 1000000 := by omega
  have htt : 0 ≤ ht := by omega
  clear hnames hkids hall hr2 hr3 ih hf3 hl hcc hc hk0
  go_enter Tryz.func19, Tryz.ntmps19
  go_wp2_with fail
  go_quiet (fail)
  go_wp2_with fail
  have HMV := Lib.hid (mv_init w hk hm (hf + cc) (ht + cc) (.slice np ns.length nc) (.slice kp ks.length kc) nq)
  generalize (((((w.alloc (.cells #[.int .i64 hk, .int .i64 hm, .int .i64 (hf + cc), .int .i64 (ht + cc), .slice np ns.length nc, .slice kp ks.length kc] 26)).alloc boxZ).drewN nq).setCell ⟨w.heap.size, 4, none⟩ (.slice none 0 0)).setCell ⟨w.heap.size, 5, none⟩ (.slice none 0 0)) = w0 at *
  generalize hf1' : hf + cc = f1 at *
  generalize ht1' : ht + cc = t1 at *
  have HF1 := Lib.hid hf1'
  have HT1 := Lib.hid ht1'
  clear hf1' ht1' hr0 hr1 hft htt
  go_loopw [29] (fun iv wr => ∃ i : Nat, i ≤ ns.length ∧ iv = .int .i64 i ∧ Hid (∃ v, Mv w hk hm f1 t1 v ((ns.take i).map (· + cc)) (.slice none 0 0) [] wr)) (fun iv _ => ns.length - (intOf iv).toNat)
  case atStart => exact ⟨0, by omega, rfl, Lib.hid ⟨_, by simpa using HMV.out⟩⟩
  case round =>
   obtain ⟨i, hi, rfl, HM⟩ := hrel
   obtain ⟨v, hmv⟩ := HM.out
   clear HM HMV
   by_cases hlt : i < ns.length
   ·obtain ⟨bx, off, rfl, _, hbx, hat⟩ := HN.out.2.resolve_left (by omega)
    have hx0 := HR2.out ns[i] (List.getElem_mem hlt)
    have c0 : wr.cell? ⟨bx, off + i, none⟩ = some (.int .i64 ns[i]) := (hmv.below.cell (p := ⟨bx, _, none⟩) hbx).trans (hat i hlt)
    have hT : (ns.take (i + 1)).map (· + cc) = (ns.take i).map (· + cc) ++ [ns[i] + cc] := by rw [List.take_succ_eq_append_getElem hlt, List.map_append]; rfl
    have HT := Lib.hid hT
    have hql : ((ns.take i).map (· + cc)).length ≤ 1000000 := by rw [List.length_map, List.length_take]; omega
    have hrb1 : (0 : Int) ≤ (i : Int) := by omega
    have hrb2 : (i : Int) < (ns.length : Int) := by omega
    have hx1 : ns[i] ≤ 1000000 := by omega
    obtain ⟨hx2, _⟩ := hx0
    have hx3 : 0 ≤ ns[i] := by have := HRZ.out; omega
    clear hT hat
    generalize ns[i] = x at *
    generalize (ns.take i).map (· + cc) = A at *
    have hqb := Lib.cell_of_heap hmv.box
    have q4 := hqb 4
    simp only [List.getElem?_toArray, List.getElem?_cons_zero, List.getElem?_cons_succ] at q4
    have hmv2 := hmv.step ((Below.refl wr.heap.size wr).alloc (Nat.le_refl _) (.cells #[.int .i64 (x + cc)] 3))
    have HM2 := Lib.hid hmv2
    have HO := Lib.hid hmv2.own
    have hzz := hmv.lt
    have HLEN : Hid ((A ++ [x + cc]).length = A.length + 1) := Lib.hid (by simp)
    clear hmv hmv2 hqb
    generalize A.length = q at *
    go_wp2_with (at_builtin; refine wpList_append_own _ rfl _ _ 23 rfl (w.heap.size + 2) 3 i0 _ 1 8 Tryz.underlying23 hi0 hy0 hy1 hy2 rfl (by omega) v q _ rfl HO.out ⟨wr.heap.size, 0, none⟩ 1 1 [.int .i64 (x + cc)] rfl rfl one_news (by simp [Value.oneCell']) (by unfold maxLen; omega) (by omega) (by simp; omega) ?_)
    intro v5 w5 hown5 hgrow _
    have hB5 : w5.heap[w.heap.size]? = some (.cells #[.int .i64 hk, .int .i64 hm, .int .i64 f1, .int .i64 t1, v, .slice none 0 0] 26 (0, 0)) := (hgrow.block _ (Array.getElem?_eq_some_iff.1 HM2.out.box).1 (fun e => by have := (HO.out.lt _ e.symm).1; omega)).trans HM2.out.box
    have q5 := Lib.cell_of_heap hB5 4
    simp only [List.getElem?_toArray, List.getElem?_cons_zero, List.getElem?_cons_succ] at q5
    have z5 := cells_frozen hB5 4
    have HMN := Lib.hid (HM2.out.name (l1 := A ++ [x + cc]) (v1 := v5) (by rw [HLEN.out, List.map_append]; exact hown5) hgrow)
    have hvf : ∃ p n c, v5 = .slice p n c := by obtain ⟨p, c, h⟩ := own_form hown5; exact ⟨p, _, c, h⟩
    obtain ⟨p5, n5, c5, rfl⟩ := hvf
    clear hown5 hgrow hB5 HO HM2
    go_wp2_with fail
    go_roundw
    case rel => exact ⟨i + 1, by omega, by go_num, Lib.hid ⟨_, by rw [HT.out]; exact HMN.out⟩⟩
    case measure => simp [intOf]; omega
   ·have hil : i = ns.length := by omega
    rw [List.take_of_length_le (by omega)] at hmv
    have HMV := Lib.hid hmv
    clear hmv
    clear HN HR2
    generalize hL : ns.map (· + cc) = L at *
    have HLL := Lib.hid hL
    clear hL
    go_wp2_with fail
    go_loopw [44] (fun jv wr => ∃ j : Nat, j ≤ ks.length ∧ jv = .int .i64 j ∧ Hid (∃ vk ys, Mv w hk hm f1 t1 v L vk ys wr ∧ ys.map Br.pb = (ks.take j).map fun b => b.pb.on c)) (fun jv _ => ks.length - (intOf jv).toNat)
    case atStart => exact ⟨0, by omega, rfl, Lib.hid ⟨_, _, HMV.out, rfl⟩⟩
    case round =>
    obtain ⟨j, hj, rfl, HM⟩ := hrel
    obtain ⟨vk, ys, hmk, hys⟩ := HM.out
    clear HM HMV
    have hlen := congrArg List.length hys
    rw [List.length_map, List.length_map, List.length_take] at hlen
    have HYS := Lib.hid hys
    clear hys
    by_cases hlt : j < ks.length
    ·obtain ⟨bx, off, rfl, _, hbx, hat⟩ := HK.out.2.resolve_left (by omega)
     obtain ⟨d0, d1, d2, d3, d4, d5⟩ := (hat j hlt).step hbx hmk.below
     have hmem := List.getElem_mem hlt
     have hch := chain_mem HR3.out ks[j].pb (List.mem_map.2 ⟨_, hmem, rfl⟩)
     have HTK : Hid ((ks.take (j + 1)).map (fun b => b.pb.on c) = (ks.take j).map (fun b => b.pb.on c) ++ [ks[j].pb.on c]) := Lib.hid (by rw [List.take_succ_eq_append_getElem hlt, List.map_append]; rfl)
     have hB1 : Below wr.heap.size wr (wr.alloc (BC ks[j].h)) := (Below.refl _ _).alloc (Nat.le_refl _) _
     have HX := Lib.hid (HI.out ks[j] hmem c (wr.alloc (BC ks[j].h)).drew ((((HA.out _ hmem).step _ hmk.below).step _ hB1).step _ (Below.refl _ _).drew) (HF3.out _ hmem) hch.1 (by omega) HC.out)
     rw [← HCC.out] at HX
     have HM1 := Lib.hid (hmk.step hB1)
     have hnew := Lib.cell_of_heap (heap_alloc_new wr (BC ks[j].h))
     have HKB : Hid (∀ i u, (hcells ks[j].h)[i]? = some u → (wr.alloc (BC ks[j].h)).cell? ⟨wr.heap.size, i, none⟩ = some u) := Lib.hid (fun i u hu => by rw [hnew]; simpa [hcells] using hu)
     have HKL : Hid (wr.heap.size < (wr.alloc (BC ks[j].h)).heap.size) := Lib.hid (by simp)
     have HBL : Hid (w.heap.size < (wr.alloc (BC ks[j].h)).heap.size) := Lib.hid (by have := HM1.out.lt; omega)
     have hq5 := Lib.cell_of_heap HM1.out.box 5
     simp only [List.getElem?_toArray, List.getElem?_cons_zero, List.getElem?_cons_succ] at hq5
     have HQ5 := Lib.hid hq5
     have hrb1 : (0 : Int) ≤ (j : Int) := by omega
     have hrb2 : (j : Int) < (ks.length : Int) := by omega
     obtain ⟨qk, hqk⟩ : ∃ qk, qk = ys.length := ⟨_, rfl⟩
     have HLK := Lib.hid hqk.symm
     have hqk2 : qk ≤ 1000000 := by omega
     clear hat hmem hch hB1 hnew hq5 hmk hqk hlen
     generalize ks[j] = y at *
     go_wp2_with fail
     generalize wr.heap.size = kb at *
     generalize wr.alloc (BC y.h) = W1 at *
     refine wp_region_till (fun W : World => Below W1.heap.size W1 W) 6 (by kernel_rfl) ?_
     have hS : (fun W : World => Below W1.heap.size W1 W) W1.drew := (Below.refl _ _).drew
     refine start_fp (N := 58) [(1, .int .i64 cc), (2, .pointer (some ⟨w.heap.size, 0, none⟩)), (10, .pointer (some ⟨kb, 0, none⟩))] (Fs.of rfl rfl (by simp [Act.eval])) ?_
     intro a0 ha0 hF
     refine take_fp 0 [1, 6, 7, 8] (oi := { dst := some 48, op := Op.fieldAddr 26 (Operand.tmp 2) 5, type := 0, pos := "more.go:18", after := #[], guard := none }) (d := 48) (v := .pointer (some ⟨w.heap.size, 5, none⟩)) hF hS rfl rfl (by decide) (by kernel_rfl) (by kernel_rfl) (by kernel_rfl) (by kernel_rfl) (fun _ _ _ h => h) (fun a' hA => wanted_none rfl) (fun a' hA w' hw => by have e2 := hA.get 2 rfl; have ec : ∀ v, a'.eval (.const v) = v := fun _ => rfl; clear hA; generalize a'.eval = ρ at *; simp [go_sem, ec, e2]; try rfl) ?_
     clear hF
     intro hF
     refine take_fp 1 [6, 7, 8] (oi := { dst := some 49, op := Op.load 24 (Operand.tmp 48), type := 24, pos := "more.go:18", after := #[{ on := 0, ground := Ground.data }], guard := none }) (d := 49) (v := vk) hF hS rfl rfl (by decide) (by kernel_rfl) (by kernel_rfl) (by kernel_rfl) (by kernel_rfl) (fun _ _ _ h => h) (fun a' hA => wanted_none rfl) (fun a' hA w' hw => by have e48 := hA.get 48 rfl; have ec : ∀ v, a'.eval (.const v) = v := fun _ => rfl; have q0 := (hw.cell (p := ⟨w.heap.size, 5, none⟩) HBL.out).trans HQ5.out; clear hA; generalize a'.eval = ρ at *; simp [go_sem, ec, e48, q0]; try rfl) ?_
     clear hF
     intro hF
     refine take_fp 2 [4, 5, 6, 7, 8] (oi := { dst := some 50, op := Op.load 26 (Operand.tmp 10), type := 26, pos := "more.go:18", after := #[], guard := none }) (d := 50) (v := .agg #[.int .i64 y.h.k, .int .i64 y.h.m, .int .i64 y.h.f, .int .i64 y.h.t, .slice y.h.np y.h.nn y.h.nc, .slice y.h.kp y.h.kn y.h.kc]) hF hS rfl rfl (by decide) (by kernel_rfl) (by kernel_rfl) (by kernel_rfl) (by kernel_rfl) (fun _ _ _ h => h) (fun a' hA => wanted_none rfl) (fun a' hA w' hw => by have e10 := hA.get 10 rfl; have ec : ∀ v, a'.eval (.const v) = v := fun _ => rfl; have q0 := (hw.cell (p := ⟨kb, 0, none⟩) HKL.out).trans (HKB.out 0 _ rfl); have q1 := (hw.cell (p := ⟨kb, 1, none⟩) HKL.out).trans (HKB.out 1 _ rfl); have q2 := (hw.cell (p := ⟨kb, 2, none⟩) HKL.out).trans (HKB.out 2 _ rfl); have q3 := (hw.cell (p := ⟨kb, 3, none⟩) HKL.out).trans (HKB.out 3 _ rfl); have q4 := (hw.cell (p := ⟨kb, 4, none⟩) HKL.out).trans (HKB.out 4 _ rfl); have q5 := (hw.cell (p := ⟨kb, 5, none⟩) HKL.out).trans (HKB.out 5 _ rfl); clear hA; generalize a'.eval = ρ at *; simp [go_sem, ec, e10, q0, q1, q2, q3, q4, q5]; try rfl) ?_
     clear hF
     intro hF
     refine take_fp 3 [4, 5, 6, 7, 8] (oi := { dst := some 51, op := Op.move (Operand.tmp 1), type := 3, pos := "more.go:18", after := #[], guard := none }) (d := 51) (v := .int .i64 cc) hF hS rfl rfl (by decide) (by kernel_rfl) (by kernel_rfl) (by kernel_rfl) (by kernel_rfl) (fun _ _ _ h => h) (fun a' hA => wanted_none rfl) (run_move_fs rfl rfl) ?_
     clear hF
     intro hF
     refine wpTill_alone 4 (by kernel_rfl) ?_
     refine call_op 4 (oi := { dst := some 52, op := Op.call { callee := Callee.value (Operand.func 19), args := #[Operand.tmp 50, Operand.tmp 51], argTypes := #[26, 3] }, type := 26, pos := "more.go:18", after := #[{ on := 2, ground := Ground.data }, { on := 3, ground := Ground.data }], guard := none }) (d := 52) (R := fun e w' => ∃ v, e = .returned v ∧ RB W1.drew (y.pb.on c) v w' ∧ Below W1.drew.heap.size W1.drew w') hF rfl rfl (by decide) (fun a' hA => wanted_none rfl) (fun a' hA => by have e50 := hA.get 50 rfl; have e51 := hA.get 51 rfl; have ef : ∀ f, a'.eval (.func f) = .func (.func f) #[] #[] := fun _ => rfl; have ec : ∀ v, a'.eval (.const v) = v := fun _ => rfl; clear hA; generalize a'.eval = ρ at *; simp [go_sem, ef, ec, e50, e51]) HX.out (by rintro w' ⟨v, h, _⟩; cases h) (by rintro ch w' ⟨v, h, _⟩; cases h) ?_
     rintro v3 w3 ⟨_, h, ⟨y2, hv2, hyl2, hyo2, hyp2⟩, hb3⟩ hF2
     have h := Ending.returned.inj h
     subst h
     subst hv2
     clear hF
     have hF := hF2
     clear hF2
     have hb3 : Below W1.heap.size W1 w3 := hS.trans hb3
     clear hS
     have hS : (fun W : World => Below W1.heap.size W1 W) w3 := hb3
     refine ⟨fun _ => hS, ?_⟩
     refine wpTill_alone 5 (by kernel_rfl) (make_op 5 (oi := { dst := some 53, op := Op.buildSlice 24 1 #[(0, Operand.tmp 52)], type := 24, pos := "more.go:18", after := #[{ on := 4, ground := Ground.data }], guard := none }) (d := 53) (v := .slice (some ⟨w3.heap.size, 0, none⟩) 1 1) (w' := w3.alloc (BC y2.h)) hF rfl rfl (by decide) (fun a' hA => wanted_none rfl) (fun a' hA => by have e52 := hA.get 52 rfl; have ec : ∀ v, a'.eval (.const v) = v := fun _ => rfl; clear hA; generalize a'.eval = ρ at *; simp [go_sem, ec, e52]; try rfl) ?_)
     clear hF
     intro hF
     have hS : (fun W : World => Below W1.heap.size W1 W) (w3.alloc (BC y2.h)) := hb3.trans (((Below.refl w3.heap.size w3).alloc (Nat.le_refl _) _).mono hb3.size)
     refine ⟨fun _ => hS, ?_⟩
     have hown3 := ((HM1.out.step hb3).step ((Below.refl w3.heap.size w3).alloc (Nat.le_refl _) (BC y2.h))).kids
     rw [HLK.out] at hown3
     obtain ⟨g5, cap5, w5, hr5, hown5, hgrow5, hat5, hlt5⟩ := run_append_lies (P := Tryz.prog) (w3.alloc (BC y2.h)) 24 24 (w.heap.size + 2) 26 j0 _ 6 80 Tryz.underlying24 hj0 hj1 hj2 hj3 rfl (by omega) vk qk _ hown3 ⟨w3.heap.size, 0, none⟩ 1 1 (cellsK [y2]) rfl news_one (cellsK_one _) (by omega) (by unfold maxLen; omega) (by omega) (by have := hb3.size; have := HM1.out.lt; simp; omega) (w3.heap.size + 1) (by simp)
     refine wpTill_alone 6 (by kernel_rfl) (make_op 6 (oi := { dst := some 54, op := Op.call { callee := Callee.builtin Builtin.append, args := #[Operand.tmp 49, Operand.tmp 53], argTypes := #[24, 24] }, type := 24, pos := "more.go:18", after := #[{ on := 1, ground := Ground.data }, { on := 5, ground := Ground.data }, { on := 4, ground := Ground.chain }], guard := none }) (d := 54) (v := .slice (some ⟨g5, 0, none⟩) (qk + 1) cap5) (w' := w5) hF rfl rfl (by decide) (fun a' hA => wanted_none rfl) (fun a' hA => by have e49 := hA.get 49 rfl; have e53 := hA.get 53 rfl; clear hA hF; generalize a'.eval = ρ at *; unfold execOp; simp only [resolve, invoke, builtin, Sem.run_bind, Sem.run_pure, Result.andThen_ok, List.map_toArray, List.map_cons, List.map_nil, e49, e53, hr5]) ?_)
     clear hF
     intro hF
     refine ⟨fun h => absurd h (by decide), ?_⟩
     have HMK := Lib.hid (HM1.out.kid (v5 := .slice (some ⟨g5, 0, none⟩) (qk + 1) cap5) hb3 hyl2 (hyo2.mono (fun q hq => hq) _) (by rw [List.length_append, HLK.out, cellsK_append]; exact hown5) hgrow5 hat5 rfl)
     have hB5 := ((HM1.out.step hb3).step ((Below.refl w3.heap.size w3).alloc (Nat.le_refl _) (BC y2.h)))
     have hB5 := (hgrow5.block _ (Array.getElem?_eq_some_iff.1 hB5.box).1 (fun e => by have := (HM1.out.kids.lt _ e.symm).1; omega)).trans hB5.box
     have r5 := Lib.cell_of_heap hB5 5
     simp only [List.getElem?_toArray, List.getElem?_cons_zero, List.getElem?_cons_succ] at r5
     have z5 := cells_frozen hB5 5
     refine wpTill_alone 7 (by kernel_rfl) (make_op 7 (oi := { dst := some 55, op := Op.fieldAddr 26 (Operand.tmp 2) 5, type := 0, pos := "more.go:18", after := #[{ on := 0, ground := Ground.phase }, { on := 1, ground := Ground.phase }, { on := 2, ground := Ground.phase }, { on := 3, ground := Ground.phase }, { on := 4, ground := Ground.phase }, { on := 5, ground := Ground.phase }, { on := 6, ground := Ground.phase }], guard := none }) (d := 55) (v := .pointer (some ⟨w.heap.size, 5, none⟩)) (w' := w5) hF rfl rfl (by decide) (fun a' hA => wanted_none rfl) (fun a' hA => by have e2 := hA.get 2 rfl; have ec : ∀ v, a'.eval (.const v) = v := fun _ => rfl; clear hA; generalize a'.eval = ρ at *; simp [go_sem, ec, e2]; try rfl) ?_)
     clear hF
     intro hF
     refine ⟨fun h => absurd h (by decide), ?_⟩
     refine wpTill_alone 8 (by kernel_rfl) (store_op 8 (oi := { dst := none, op := Op.store 24 (Operand.tmp 55) (Operand.tmp 54), type := 0, pos := "more.go:18", after := #[{ on := 7, ground := Ground.data }, { on := 6, ground := Ground.data }, { on := 6, ground := Ground.chain }, { on := 0, ground := Ground.phase }, { on := 1, ground := Ground.phase }, { on := 2, ground := Ground.phase }, { on := 3, ground := Ground.phase }, { on := 4, ground := Ground.phase }, { on := 5, ground := Ground.phase }, { on := 6, ground := Ground.phase }], guard := none }) (w' := w5.setCell ⟨w.heap.size, 5, none⟩ (.slice (some ⟨g5, 0, none⟩) (qk + 1) cap5)) hF rfl rfl (fun a' hA => wanted_none rfl) (fun a' hA => ?_) ?_)
     ·have e54 := hA.get 54 rfl
      have e55 := hA.get 55 rfl
      clear hA hF
      generalize a'.eval = ρ at *
      simp [go_sem, e54, e55, r5, z5]
     refine ⟨fun h => absurd h (by decide), ?_⟩
     refine wpTill_done (by kernel_rfl) ?_ _
     subst ha0
     simp only [Act.put, List.setIfInBounds_toArray, List.set_cons_zero, List.set_cons_succ]
     have HYP := Lib.hid hyp2
     clear hF hS hb3 hown3 hown5 hgrow5 hat5 hlt5 hr5 hB5 r5 z5 hyl2 hyo2 hyp2
     generalize w5.setCell ⟨w.heap.size, 5, none⟩ (.slice (some ⟨g5, 0, none⟩) (qk + 1) cap5) = w6 at *
     go_wp2_with fail
     go_roundw
     case rel => exact ⟨j + 1, by omega, by go_num, Lib.hid ⟨_, _, HMK.out, by rw [HTK.out, List.map_append, HYS.out, ← HYP.out]; rfl⟩⟩
     case measure => simp [intOf]; omega
    ·have hjl : j = ks.length := by omega
     rw [List.take_of_length_le (by omega)] at HYS
     have hqb := Lib.cell_of_heap hmk.box
     have q0 := hqb 0
     have q1 := hqb 1
     have q2 := hqb 2
     have q3 := hqb 3
     have q4 := hqb 4
     have q5 := hqb 5
     have hrb := Lib.cell_of_heap hmk.res
     have r0 := hrb 0
     have r1 := hrb 1
     have r2 := hrb 2
     have r3 := hrb 3
     have r4 := hrb 4
     have r5 := hrb 5
     simp only [List.getElem?_toArray, List.getElem?_cons_zero, List.getElem?_cons_succ, boxZ] at q0 q1 q2 q3 q4 q5 r0 r1 r2 r3 r4 r5
     have f0 := cells_frozen hmk.res 0
     have f1' := cells_frozen hmk.res 1
     have f2 := cells_frozen hmk.res 2
     have f3 := cells_frozen hmk.res 3
     have f4 := cells_frozen hmk.res 4
     have f5 := cells_frozen hmk.res 5
     have HMK := Lib.hid hmk
     obtain ⟨vp, vc, hv⟩ := own_form hmk.own
     obtain ⟨vkp, vkc, hvk⟩ := own_form hmk.kids
     subst hv
     subst hvk
     clear hqb hrb hmk hlen
     go_wp2_with fail
     obtain ⟨hsix, hgs⟩ := six_set HMK.out.res (.int .i64 hk) (.int .i64 hm) (.int .i64 f1) (.int .i64 t1) (.slice vp L.length vc) (.slice vkp ys.length vkc)
     have dd := Lib.cell_of_heap hsix
     have d0 := dd 0
     have d1 := dd 1
     have d2 := dd 2
     have d3 := dd 3
     have d4 := dd 4
     have d5 := dd 5
     simp only [List.getElem?_toArray, List.getElem?_cons_zero, List.getElem?_cons_succ] at d0 d1 d2 d3 d4 d5
     refine bodyPost_ret (by simp [results, Tryz.results19, go_sem, d0, d1, d2, d3, d4, d5, Result.andThen]; try rfl) rfl ?_
     refine ⟨_, rfl, ?_, HMK.out.below.grown hgs HMK.out.below.size (fun q hq => by have := Option.some.inj hq; omega)⟩
     have hret := HMK.out.ret (Or.inr hgs)
     rw [HYS.out] at hret
     have e : (Pb.mk hk hm f1 t1 L (ks.map fun b => b.pb.on c)) = (Br.mk ⟨hk, hm, hf, ht, np, ns.length, nc, ns, kp, ks.length, kc⟩ ks).pb.on c := by
      simp only [Br.pb, Pb.on, onL_map, pbs_map, Pb.mk.injEq, true_and, List.map_map]
      refine ⟨by rw [← HF1.out, HCC.out], by rw [← HT1.out, HCC.out], by rw [← HLL.out, HCC.out], rfl⟩
     rw [← e]
     exact hret
end Go.Proofs.YtifoodfbgghplaaGreatDoor

namespace Go.Proofs.YtifoodfbgghplaaGreatDoor
open Go.RowKit
set_option maxRecDepth 20000
set_option linter.unusedVariables false
set_option linter.unusedSimpArgs false

theorem sames_pb {ks : List Br} (ih : ∀ a ∈ ks, ∀ b : Br, a.pb = b.pb → a.same b = true) : ∀ js : List Br, ks.map Br.pb = js.map Br.pb → sames ks js = true := by
 induction ks with
 | nil => intro js _; simp only [sames]
 | cons x r ih2 =>
  intro js h
  cases js with
  | nil => cases h
  | cons y s =>
   simp only [List.map_cons, List.cons.injEq] at h
   simp only [sames, ih x (by simp) y h.1, ih2 (fun a ha => ih a (by simp [ha])) s h.2, Bool.and_self]
/-- Branches that are the same as such are the same part by part. -/
theorem same_pb (a : Br) : ∀ b : Br, a.pb = b.pb → a.same b = true := by
 induction a using Br.ind with
 | hP h ks ih =>
  intro b hb
  obtain ⟨g, js⟩ := b
  simp only [Br.pb, Pb.mk.injEq, pbs_map] at hb
  obtain ⟨h1, h2, h3, h4, h5, h6⟩ := hb
  have h7 := congrArg List.length h6
  simp only [List.length_map] at h7
  rw [same_eq]
  simp only [Br.h, Br.ks, h1, h2, h3, h4, h5, h7, decide_true, Bool.true_and, sames_pb ih js h6, sameI, beq_self_eq_true]
/-- The joined text. -/
abbrev joinT (s t : ByteArray) : ByteArray := s ++ ⟨#[10, 59, 10]⟩ ++ t
theorem joinT_data (s t : ByteArray) : (joinT s t).data.toList = s.data.toList ++ (10 :: 59 :: 10 :: t.data.toList) := by simp [joinT]

set_option maxHeartbeats 4000000 in
theorem joins_long (s t : ByteArray) (w : World) (hk : Kw w) (h : 1500 < s.size ∨ s.size ≤ 1500 ∧ 1500 < t.size) : Calls Tryz.prog 6 #[.string s, .string t] w fun e w' => e = .returned (.bool true) ∧ Below w.heap.size w w' := by
 have HL := Lib.hid (alive_any w hk)
 rcases h with h | ⟨h, h2⟩
 ·go_enter Tryz.func6, Tryz.ntmps6
  go_wp2_with (go_at_call 7; refine HL.out.mono ?_; rintro e w1 ⟨rfl, hb⟩; have HB := Lib.hid hb; clear hb)
  go_ret
  exact ⟨rfl, HB.out⟩
 ·go_enter Tryz.func6, Tryz.ntmps6
  go_wp2_with (go_at_call 7; refine HL.out.mono ?_; rintro e w1 ⟨rfl, hb⟩; have HB := Lib.hid hb; clear hb)
  go_ret
  exact ⟨rfl, HB.out⟩

/-- The kids of a file that was read. -/
theorem file_kids {w w' : World} {k m f t : Int} {np : Option Addr} {nn nc : Nat} {kp : Option Addr} {kn kc n : Nat} {l : List Pb} (h : RB w (node 1 0 n [] l) (.agg #[.int .i64 k, .int .i64 m, .int .i64 f, .int .i64 t, .slice np nn nc, .slice kp kn kc]) w') :
  t = (n : Int) ∧ ∃ ks : List Br, KidsIn w' kp kn kc ks ∧ (∀ x ∈ ks, x.Lies w') ∧ ks.map Br.pb = l := by
 obtain ⟨⟨⟨yk, ym, yf, yt, ynp, ynn, ync, yns, ykp, ykn, ykc⟩, ks⟩, hv, hl, _, hp⟩ := h
 simp only [Hd.val, Br.h, Value.agg.injEq, Array.mk.injEq, List.cons.injEq, Value.int.injEq, Value.slice.injEq, true_and, and_true] at hv
 obtain ⟨rfl, rfl, rfl, rfl, ⟨rfl, rfl, rfl⟩, rfl, rfl, rfl⟩ := hv
 simp only [Br.pb, node, Pb.mk.injEq, pbs_map] at hp
 obtain ⟨_, _, hk⟩ := (lies_iff _ _).1 hl
 exact ⟨hp.2.2.2.1, ks, by assumption, hk, hp.2.2.2.2.2⟩

set_option maxHeartbeats 4000000 in
theorem joins_any (s t : ByteArray) (w : World) (hk : Kw w) (hs : s.size ≤ 1500) (ht : t.size ≤ 1500) : Calls Tryz.prog 6 #[.string s, .string t] w fun e w' => e = .returned (.bool true) ∧ Below w.heap.size w w' := by
 have H1 := Lib.hid (parse_file s (by omega) w hk)
 have HK0 := Lib.hid hk
 have HB0 := Lib.hid (Below.refl w.heap.size w)
 clear hk
 go_enter Tryz.func6, Tryz.ntmps6
 go_wp2_with fail
 refine H1.out.mono ?_
 intro e w1 hsd
 obtain ⟨k1, m1, f1, t1, np1, nn1, nc1, kp1, kn1, kc1, a1, c1, rfl⟩ := hsd.form
 have hb := hsd.1
 have hbA := (Below.refl w1.heap.size w1).alloc (Nat.le_refl _) (.cells #[.int .i64 k1, .int .i64 m1, .int .i64 f1, .int .i64 t1, .slice np1 nn1 nc1, .slice kp1 kn1 kc1] 26)
 have hbB := hb.trans (hbA.mono hb.size)
 have HS1 := Lib.hid hsd
 have HK1 := Lib.hid (HK0.out.step hbB)
 have HB1 := Lib.hid (HB0.out.trans (hbB.mono HB0.out.size))
 have HX1 := Lib.hid (heap_alloc_new w1 (.cells #[.int .i64 k1, .int .i64 m1, .int .i64 f1, .int .i64 t1, .slice np1 nn1 nc1, .slice kp1 kn1 kc1] 26))
 have HA1 := Lib.hid hbA
 have HZ1 : Hid (w1.heap.size < (w1.alloc (.cells #[.int .i64 k1, .int .i64 m1, .int .i64 f1, .int .i64 t1, .slice np1 nn1 nc1, .slice kp1 kn1 kc1] 26)).heap.size) := Lib.hid (by simp)
 clear hsd hb hbA hbB HK0 HB0 H1
 have H2 := Lib.hid (parse_file t (by omega) _ HK1.out)
 go_wp2_with fail
 generalize hgp : w1.heap.size = p1 at *
 have HG1 := Lib.hid hgp
 clear hgp
 generalize w1.alloc (.cells #[.int .i64 k1, .int .i64 m1, .int .i64 f1, .int .i64 t1, .slice np1 nn1 nc1, .slice kp1 kn1 kc1] 26) = A1 at *
 have HZO1 := HZ1
 refine H2.out.mono ?_
 intro e w2 hsd
 obtain ⟨k2, m2, f2, t2, np2, nn2, nc2, kp2, kn2, kc2, a2, c2, rfl⟩ := hsd.form
 have hb := hsd.1
 have hbA := (Below.refl w2.heap.size w2).alloc (Nat.le_refl _) (.cells #[.int .i64 k2, .int .i64 m2, .int .i64 f2, .int .i64 t2, .slice np2 nn2 nc2, .slice kp2 kn2 kc2] 26)
 have hbB := hb.trans (hbA.mono hb.size)
 have HS2 := Lib.hid hsd
 have HK2 := Lib.hid (HK1.out.step hbB)
 have HB2 := Lib.hid (HB1.out.trans (hbB.mono HB1.out.size))
 have HX2 := Lib.hid (heap_alloc_new w2 (.cells #[.int .i64 k2, .int .i64 m2, .int .i64 f2, .int .i64 t2, .slice np2 nn2 nc2, .slice kp2 kn2 kc2] 26))
 have HA2 := Lib.hid hbA
 have HZ2 : Hid (w2.heap.size < (w2.alloc (.cells #[.int .i64 k2, .int .i64 m2, .int .i64 f2, .int .i64 t2, .slice np2 nn2 nc2, .slice kp2 kn2 kc2] 26)).heap.size) := Lib.hid (by simp)
 have HX1' := Lib.hid ((hbB.block _ HZ1.out).trans HX1.out)
 have HA1' := Lib.hid (HA1.out.trans (hbB.mono (Nat.le_of_lt HZ1.out)))
 have HZ1' : Hid (p1 < (w2.alloc (.cells #[.int .i64 k2, .int .i64 m2, .int .i64 f2, .int .i64 t2, .slice np2 nn2 nc2, .slice kp2 kn2 kc2] 26)).heap.size) := Lib.hid (Nat.lt_of_lt_of_le HZ1.out hbB.size)
 clear HX1 HA1 HZ1
 have HX1 := HX1'
 have HA1 := HA1'
 have HZ1 := HZ1'
 clear HX1' HA1' HZ1'
 have HP12 : Hid (p1 < w2.heap.size) := Lib.hid (Nat.lt_of_lt_of_le HZO1.out hb.size)
 clear hsd hb hbA hbB HK1 HB1 H2
 have H3 := Lib.hid (parse_file (joinT s t) (by rw [show (joinT s t).size = s.size + 3 + t.size from by simp [joinT]; rfl]; omega) _ HK2.out)
 have hcc : (s ++ (⟨#[10, 59, 10]⟩ : ByteArray) ++ t).size ≤ 3003 := by rw [show (s ++ (⟨#[10, 59, 10]⟩ : ByteArray) ++ t).size = s.size + 3 + t.size from by simp; rfl]; omega
 go_wp2_with fail
 generalize hgp : w2.heap.size = p2 at *
 have HG2 := Lib.hid hgp
 clear hgp
 generalize w2.alloc (.cells #[.int .i64 k2, .int .i64 m2, .int .i64 f2, .int .i64 t2, .slice np2 nn2 nc2, .slice kp2 kn2 kc2] 26) = A2 at *
 clear HZO1
 have HZO1 := HZ1
 have HZO2 := HZ2
 refine H3.out.mono ?_
 intro e w3 hsd
 obtain ⟨k3, m3, f3, t3, np3, nn3, nc3, kp3, kn3, kc3, a3, c3, rfl⟩ := hsd.form
 have hb := hsd.1
 have hbA := (Below.refl w3.heap.size w3).alloc (Nat.le_refl _) (.cells #[.int .i64 k3, .int .i64 m3, .int .i64 f3, .int .i64 t3, .slice np3 nn3 nc3, .slice kp3 kn3 kc3] 26)
 have hbB := hb.trans (hbA.mono hb.size)
 have HS3 := Lib.hid hsd
 have HK3 := Lib.hid (HK2.out.step hbB)
 have HB3 := Lib.hid (HB2.out.trans (hbB.mono HB2.out.size))
 have HX3 := Lib.hid (heap_alloc_new w3 (.cells #[.int .i64 k3, .int .i64 m3, .int .i64 f3, .int .i64 t3, .slice np3 nn3 nc3, .slice kp3 kn3 kc3] 26))
 have HA3 := Lib.hid hbA
 have HZ3 : Hid (w3.heap.size < (w3.alloc (.cells #[.int .i64 k3, .int .i64 m3, .int .i64 f3, .int .i64 t3, .slice np3 nn3 nc3, .slice kp3 kn3 kc3] 26)).heap.size) := Lib.hid (by simp)
 have HX1' := Lib.hid ((hbB.block _ HZ1.out).trans HX1.out)
 have HA1' := Lib.hid (HA1.out.trans (hbB.mono (Nat.le_of_lt HZ1.out)))
 have HZ1' : Hid (p1 < (w3.alloc (.cells #[.int .i64 k3, .int .i64 m3, .int .i64 f3, .int .i64 t3, .slice np3 nn3 nc3, .slice kp3 kn3 kc3] 26)).heap.size) := Lib.hid (Nat.lt_of_lt_of_le HZ1.out hbB.size)
 clear HX1 HA1 HZ1
 have HX1 := HX1'
 have HA1 := HA1'
 have HZ1 := HZ1'
 clear HX1' HA1' HZ1'
 have HX2' := Lib.hid ((hbB.block _ HZ2.out).trans HX2.out)
 have HA2' := Lib.hid (HA2.out.trans (hbB.mono (Nat.le_of_lt HZ2.out)))
 have HZ2' : Hid (p2 < (w3.alloc (.cells #[.int .i64 k3, .int .i64 m3, .int .i64 f3, .int .i64 t3, .slice np3 nn3 nc3, .slice kp3 kn3 kc3] 26)).heap.size) := Lib.hid (Nat.lt_of_lt_of_le HZ2.out hbB.size)
 clear HX2 HA2 HZ2
 have HX2 := HX2'
 have HA2 := HA2'
 have HZ2 := HZ2'
 clear HX2' HA2' HZ2'
 have HP13 : Hid (p1 < w3.heap.size) := Lib.hid (Nat.lt_of_lt_of_le HZO1.out hb.size)
 have HP23 : Hid (p2 < w3.heap.size) := Lib.hid (Nat.lt_of_lt_of_le HZO2.out hb.size)
 clear hsd hb hbA hbB HK2 HB2 H3
 have hcase := said_joined (joinT_data s t) HS1.out HS2.out HS3.out
 clear HS1 HS2 HS3
 rcases hcase with ⟨p, k, hk0, he⟩ | ⟨v1, he1, p, q, k, hk0, he2, he3, hq⟩ | ⟨v1, v2, v3, n1, n2, l1, l2, he1, he2, he3, hr1, hr2, hr3, F1, F2, F3⟩
 ·simp only [Ending.returned.injEq, Value.tuple.injEq, Array.mk.injEq, List.cons.injEq, Value.int.injEq, and_true, true_and] at he
  obtain ⟨z1, z2, rfl⟩ := he
  clear z1 z2
  have hne : (c1 != 0) = true := by simpa using hk0
  have HL := Lib.hid (alive_any _ HK3.out)
  clear HX1 HX2 HX3
  go_wp2_with (first | (go_at_call 9; refine (no_any _ _).mono ?_; rintro e w' ⟨rfl, rfl⟩) | (go_at_call 7; refine HL.out.mono ?_; rintro e w6 ⟨rfl, hb6⟩; have HB6 := Lib.hid (HB3.out.trans (hb6.mono HB3.out.size)); clear hb6))
  go_ret
  exact ⟨rfl, HB6.out⟩
 ·simp only [Ending.returned.injEq, Value.tuple.injEq, Array.mk.injEq, List.cons.injEq, Value.int.injEq, and_true, true_and] at he1 he2 he3
  obtain ⟨z1, rfl, rfl⟩ := he1
  obtain ⟨z2, rfl, h2⟩ := he2
  obtain ⟨z3, rfl, h3⟩ := he3
  clear z1 z2 z3
  rw [← h2] at h3 hk0
  subst h3
  have hne : (c3 != 0) = true := by simpa using hk0
  have HL := Lib.hid (alive_any _ HK3.out)
  clear HX1 HX2 HX3
  go_wp2_with (first | (go_at_call 9; refine (no_any _ _).mono ?_; rintro e w' ⟨rfl, rfl⟩) | (go_at_call 7; refine HL.out.mono ?_; rintro e w6 ⟨rfl, hb6⟩; have HB6 := Lib.hid (HB3.out.trans (hb6.mono HB3.out.size)); clear hb6))
  go_ret
  exact ⟨by first | rfl | trivial, HB6.out⟩
 ·simp only [Ending.returned.injEq, Value.tuple.injEq, Array.mk.injEq, List.cons.injEq, Value.int.injEq, and_true, true_and] at he1 he2 he3
  obtain ⟨h1, rfl, rfl⟩ := he1
  obtain ⟨h2, rfl, rfl⟩ := he2
  obtain ⟨h3, rfl, rfl⟩ := he3
  subst h1 h2 h3
  obtain ⟨ht1, ks1, hk1, hly1, hp1⟩ := file_kids hr1
  obtain ⟨ht2, ks2, hk2, hly2, hp2⟩ := file_kids hr2
  obtain ⟨ht3, ks3, hk3, hly3, hp3⟩ := file_kids hr3
  subst hp1 hp2
  have e1 : kn1 = ks1.length := hk1.1
  have e2 : kn2 = ks2.length := hk2.1
  have e3 : kn3 = ks3.length := hk3.1
  have el := congrArg List.length hp3
  simp only [List.length_append, List.length_map] at el
  have HE1 : Hid (∀ i (h3 : i < ks3.length) (h1 : i < ks1.length), ks3[i].pb = ks1[i].pb) := Lib.hid fun i h3 h1 => by
   have := List.getElem_of_eq hp3 (i := i) (by simpa using h3)
   rw [List.getElem_map, List.getElem_append_left (by simpa using h1), List.getElem_map] at this
   exact this
  have HE2 : Hid (∀ i j (h3 : i < ks3.length) (h2 : j < ks2.length), i = ks1.length + j → ks3[i].pb = ks2[j].pb.on (n1 + 1)) := Lib.hid fun i j h3 h2 hij => by
   have := List.getElem_of_eq hp3 (i := i) (by simpa using h3)
   rw [List.getElem_map, List.getElem_append_right (by simp; omega)] at this
   simp only [List.length_map, List.getElem_map, show i - ks1.length = j by omega] at this
   exact this
  have z1 := F1.len
  have z2 := F2.len
  have z3 := F3.wt
  simp only [wt_node, List.length_nil, ← hp3] at z3
  have HW3 : Hid (∀ y ∈ ks3, y.Few) := Lib.hid fun y hy => few_of_wt y (by have := wtL_mem (List.mem_map.2 ⟨y, hy, rfl⟩ : y.pb ∈ ks3.map Br.pb); omega)
  have z4 := F2.wt
  simp only [wt_node, List.length_nil] at z4
  have HW2 : Hid (∀ y ∈ ks2, y.Few) := Lib.hid fun y hy => few_of_wt y (by have := wtL_mem (List.mem_map.2 ⟨y, hy, rfl⟩ : y.pb ∈ ks2.map Br.pb); omega)
  have HR2 : Hid (∀ y ∈ ks2, y.pb.Rt ∧ y.pb.to ≤ 1000000) := Lib.hid fun y hy => by
   have hrt := F2.rt
   simp only [node, Pb.Rt] at hrt
   have := chain_mem hrt.2.2.2.2 y.pb (List.mem_map.2 ⟨y, hy, rfl⟩)
   exact ⟨this.1, by omega⟩
  have z5 := wtL_len (ks3.map Br.pb)
  rw [List.length_map] at z5
  have hkm : kn3 ≤ 1000000 := by omega
  have hlenI : ((kn3 : Int) != (kn1 : Int) + (kn2 : Int)) = false := by rw [bne_eq_false_iff_eq]; omega
  have htoI : (t3 != t1 + t2 + 1) = false := by rw [bne_eq_false_iff_eq, ht1, ht2, ht3]; omega
  have hlenE : (kn3 : Int) = (kn1 : Int) + (kn2 : Int) := by omega
  have htoE : t3 = t1 + t2 + 1 := by rw [ht1, ht2, ht3]; omega
  subst htoE
  have hb1 : (0 : Int) ≤ t1 := by omega
  have hb2 : t1 ≤ 10000 := by omega
  have hb3 : (0 : Int) ≤ t2 := by omega
  have hb4 : t2 ≤ 10000 := by omega
  obtain ⟨cc, hcc'⟩ : ∃ cc : Nat, cc = n1 + 1 := ⟨_, rfl⟩
  rw [← hcc'] at HE2
  have HC1 : Hid (t1 + 1 = (cc : Int)) := Lib.hid (by rw [hcc', ht1]; omega)
  have HC2 : Hid (cc ≤ 1000000) := Lib.hid (by omega)
  have HS12 : Hid (kn3 = kn1 + kn2) := Lib.hid (by omega)
  have HN1 := Lib.hid e1
  have HN2 := Lib.hid e2
  have HN3 := Lib.hid e3
  have bA1 : Below w1.heap.size w1 (w3.alloc (.cells #[.int .i64 k3, .int .i64 m3, .int .i64 f3, .int .i64 (t1 + t2 + 1), .slice np3 nn3 nc3, .slice kp3 kn3 kc3] 26)) := by have := HA1.out; rw [← HG1.out] at this; exact this
  have bA2 : Below w2.heap.size w2 (w3.alloc (.cells #[.int .i64 k3, .int .i64 m3, .int .i64 f3, .int .i64 (t1 + t2 + 1), .slice np3 nn3 nc3, .slice kp3 kn3 kc3] 26)) := by have := HA2.out; rw [← HG2.out] at this; exact this
  have HKI1 := Lib.hid (hk1.step bA1)
  have HKI2 := Lib.hid (hk2.step bA2)
  have HKI3 := Lib.hid (hk3.step HA3.out)
  have HLY1 : Hid (∀ y ∈ ks1, Br.Lies _ y) := Lib.hid fun y hy => (hly1 y hy).step _ bA1
  have HLY2 : Hid (∀ y ∈ ks2, Br.Lies _ y) := Lib.hid fun y hy => (hly2 y hy).step _ bA2
  have HLY3 : Hid (∀ y ∈ ks3, Br.Lies _ y) := Lib.hid fun y hy => (hly3 y hy).step _ HA3.out
  clear hk1 hk2 hk3 hly1 hly2 hly3 hp3 hr1 hr2 hr3 F1 F2 F3 e1 e2 e3 el z1 z2 z3 z4 z5 bA1 bA2 hcc' ht1 ht2 ht3 HA1 HA2
  have HLV := Lib.hid (alive_any _ HK3.out)
  have qa := Lib.cell_of_heap ((HA3.out.block p1 HP13.out).symm.trans HX1.out)
  have qb := Lib.cell_of_heap ((HA3.out.block p2 HP23.out).symm.trans HX2.out)
  have hp13 := HP13.out
  have hp23 := HP23.out
  have qa3 := qa 3
  have qa5 := qa 5
  have qb3 := qb 3
  have qb5 := qb 5
  simp only [List.getElem?_toArray, List.getElem?_cons_zero, List.getElem?_cons_succ] at qa3 qa5 qb3 qb5
  clear qa qb
  go_wp2_with (go_at_call 9; refine (no_any _ _).mono ?_; rintro e w' ⟨rfl, rfl⟩)
  generalize w3.alloc (.cells #[.int .i64 k3, .int .i64 m3, .int .i64 f3, .int .i64 (t1 + t2 + 1), .slice np3 nn3 nc3, .slice kp3 kn3 kc3] 26) = A3 at *
  clear qa3 qa5 qb3 qb5 hp13 hp23 hcc hs ht
  go_loopw [92] (fun iv wr => ∃ i : Nat, i ≤ kn3 ∧ iv = .int .i64 i ∧ Below A3.heap.size A3 wr) (fun iv _ => kn3 - (intOf iv).toNat)
  case atStart => exact ⟨0, by omega, rfl, Below.refl _ _⟩
  case round =>
  obtain ⟨i, hi, rfl, hbe⟩ := hrel
  by_cases hlt3 : i < kn3
  ·obtain ⟨b3, o3, rfl, _, hb3x, hat3⟩ := HKI3.out.2.resolve_left (by omega)
   have h3 : i < ks3.length := by rw [← HN3.out]; exact hlt3
   obtain ⟨d0, d1, d2, d3, d4, d5⟩ := (hat3 i h3).step hb3x hbe
   have hmem3 := List.getElem_mem h3
   have hB1 : Below wr.heap.size wr (wr.alloc (BC ks3[i].h)) := (Below.refl _ _).alloc (Nat.le_refl _) _
   have hbe1 := hbe.trans (hB1.mono hbe.size)
   have HBE := Lib.hid hbe1
   have hLY := (HLY3.out _ hmem3).step _ hbe1
   have hnew := Lib.cell_of_heap (heap_alloc_new wr (BC ks3[i].h))
   have HKB : Hid (∀ i' u, (hcells ks3[i].h)[i']? = some u → (wr.alloc (BC ks3[i].h)).cell? ⟨wr.heap.size, i', none⟩ = some u) := Lib.hid (fun i' u hu => by rw [hnew]; simpa [hcells] using hu)
   have HKL : Hid (wr.heap.size < (wr.alloc (BC ks3[i].h)).heap.size) := Lib.hid (by simp)
   have q15 := Lib.cell_of_heap ((hbe1.block _ HZ1.out).trans HX1.out)
   have q25 := Lib.cell_of_heap ((hbe1.block _ HZ2.out).trans HX2.out)
   have qa3 := q15 3
   have qa5 := q15 5
   have qb5 := q25 5
   simp only [List.getElem?_toArray, List.getElem?_cons_zero, List.getElem?_cons_succ] at qa3 qa5 qb5
   have HQ13 := Lib.hid qa3
   have HQ15 := Lib.hid qa5
   have HQ25 := Lib.hid qb5
   have HL1 : Hid (p1 < (wr.alloc (BC ks3[i].h)).heap.size) := Lib.hid (Nat.lt_of_lt_of_le HZ1.out hbe1.size)
   have HL2 : Hid (p2 < (wr.alloc (BC ks3[i].h)).heap.size) := Lib.hid (Nat.lt_of_lt_of_le HZ2.out hbe1.size)
   have hrb1 : (0 : Int) ≤ (i : Int) := by omega
   have hrb2 : (i : Int) < (kn3 : Int) := by omega
   by_cases hc : i < kn1
   ·have h1 : i < ks1.length := by rw [← HN1.out]; exact hc
    obtain ⟨b1, o1, rfl, _, hb1x, hat1⟩ := HKI1.out.2.resolve_left (by omega)
    have hmem1 := List.getElem_mem h1
    have hL1 := (HLY1.out _ hmem1).step _ hbe1
    have HXC : Hid (∀ W, Below (wr.alloc (BC ks3[i].h)).heap.size (wr.alloc (BC ks3[i].h)) W → BrAt W b1 (o1 + i * 6) ks1[i].h) := Lib.hid fun W hW => (((hat1 i h1).step hb1x hbe1).step (Nat.lt_of_lt_of_le hb1x hbe1.size) hW)
    have HX : Hid (∀ W, Below (wr.alloc (BC ks3[i].h)).heap.size (wr.alloc (BC ks3[i].h)) W → Calls Tryz.prog 10 #[ks3[i].h.val, ks1[i].h.val] W fun e w' => e = .returned (.bool true) ∧ Below W.heap.size W w') := Lib.hid fun W hW => by
     have := refSame_any ks3[i] ks1[i] W (hLY.step _ hW) (hL1.step _ hW) (HW3.out _ hmem3)
     rw [same_pb _ _ (HE1.out i h3 h1)] at this
     exact this
    have hlt : i < kn1 := hc
    have hlti : (i : Int) < (kn1 : Int) := by omega
    have hle : ¬ kn1 ≤ i := by omega
    have hlei : ¬ (kn1 : Int) ≤ (i : Int) := by omega
    have hx1 : (0 : Int) ≤ (i : Int) := by omega
    have hx2 : (i : Int) < (kn1 : Int) := by omega
    clear hat1 hat3 hmem1 hmem3 hL1 hLY hB1 hbe1 hnew q15 q25 qa3 qa5 qb5 hbe
    generalize ks3[i] = y at *
    generalize ks1[i] = x at *
    go_wp2_with fail
    generalize wr.heap.size = kb at *
    generalize wr.alloc (BC y.h) = W1 at *
    refine wp_region_till (fun W : World => Below W1.heap.size W1 W) 39 (by kernel_rfl) ?_
    have hS : (fun W : World => Below W1.heap.size W1 W) W1.drew := (Below.refl _ _).drew
    refine start_fp (N := 139) [(5, .pointer (some ⟨p1, 0, none⟩)), (8, .pointer (some ⟨p2, 0, none⟩)), (14, .int .i64 (i : Int)), (15, .pointer (some ⟨kb, 0, none⟩))] (Fs.of rfl rfl (by simp [Act.eval])) ?_
    intro a0 ha0 hF
    refine take_fp 0 [4, 5, 6, 7, 8, 9, 10, 11, 12, 13, 14, 15, 16, 17, 18, 19, 20, 21, 22, 23, 24, 25, 26, 27, 28, 29, 30, 31, 32, 33, 34, 35, 36, 37, 38, 39] (oi := { dst := some 97, op := Op.move (Operand.tmp 14), type := 3, pos := "more.go:42", after := #[], guard := none }) (d := 97) (v := .int .i64 (i : Int)) hF hS rfl rfl (by decide) (by kernel_rfl) (by kernel_rfl) (by kernel_rfl) (by kernel_rfl) (fun _ _ _ h => h) (fun a' hA => wanted_none rfl) (run_move_fs rfl rfl) ?_
    clear hF
    intro hF
    refine take_fp 1 [2, 3, 4, 5, 6, 7, 8, 9, 10, 11, 12, 13, 14, 15, 16, 17, 18, 19, 20, 21, 22, 23, 24, 25, 26, 27, 28, 29, 30, 31, 32, 33, 34, 35, 36, 37, 38, 39] (oi := { dst := some 98, op := Op.fieldAddr 26 (Operand.tmp 5) 5, type := 0, pos := "more.go:42", after := #[], guard := none }) (d := 98) (v := .pointer (some ⟨p1, 5, none⟩)) hF hS rfl rfl (by decide) (by kernel_rfl) (by kernel_rfl) (by kernel_rfl) (by kernel_rfl) (fun _ _ _ h => h) (fun a' hA => wanted_none rfl) (fun a' hA w' hw => by have e5 := hA.get 5 rfl; have ec : ∀ v, a'.eval (.const v) = v := fun _ => rfl; clear hA; generalize a'.eval = ρ at *; simp [go_sem, ec, e5]; try rfl) ?_
    clear hF
    intro hF
    refine take_fp 2 [3, 4, 5, 6, 7, 8, 9, 10, 11, 12, 13, 14, 15, 16, 17, 18, 19, 20, 21, 22, 23, 24, 25, 26, 27, 28, 29, 30, 31, 32, 33, 34, 35, 36, 37, 38, 39] (oi := { dst := some 99, op := Op.load 24 (Operand.tmp 98), type := 24, pos := "more.go:42", after := #[{ on := 1, ground := Ground.data }], guard := none }) (d := 99) (v := .slice (some ⟨b1, o1, none⟩) kn1 kc1) hF hS rfl rfl (by decide) (by kernel_rfl) (by kernel_rfl) (by kernel_rfl) (by kernel_rfl) (fun _ _ _ h => h) (fun a' hA => wanted_none rfl) (fun a' hA w' hw => by have e98 := hA.get 98 rfl; have ec : ∀ v, a'.eval (.const v) = v := fun _ => rfl; have q0 := (hw.cell (p := ⟨p1, 5, none⟩) HL1.out).trans HQ15.out; clear hA; generalize a'.eval = ρ at *; simp [go_sem, ec, e98, q0]; try rfl) ?_
    clear hF
    intro hF
    refine take_fp 3 [4, 5, 6, 7, 8, 9, 10, 11, 12, 13, 14, 15, 16, 17, 18, 19, 20, 21, 22, 23, 24, 25, 26, 27, 28, 29, 30, 31, 32, 33, 34, 35, 36, 37, 38, 39] (oi := { dst := some 100, op := Op.call { callee := Callee.builtin Builtin.len, args := #[Operand.tmp 99], argTypes := #[24] }, type := 3, pos := "more.go:42", after := #[{ on := 2, ground := Ground.data }], guard := none }) (d := 100) (v := .int .i64 (kn1 : Int)) hF hS rfl rfl (by decide) (by kernel_rfl) (by kernel_rfl) (by kernel_rfl) (by kernel_rfl) (fun _ _ _ h => h) (fun a' hA => wanted_none rfl) (fun a' hA w' hw => by have e99 := hA.get 99 rfl; have ec : ∀ v, a'.eval (.const v) = v := fun _ => rfl; clear hA; generalize a'.eval = ρ at *; simp [go_sem, ec, e99]; try rfl) ?_
    clear hF
    intro hF
    refine take_fp 4 [5, 6, 7, 8, 9, 10, 11, 12, 13, 14, 15, 16, 17, 18, 19, 20, 21, 22, 23, 24, 25, 26, 27, 28, 29, 30, 31, 32, 33, 34, 35, 36, 37, 38, 39] (oi := { dst := some 101, op := Op.binOp BinOp.lss 3 (Operand.tmp 97) (Operand.tmp 100) 3, type := 4, pos := "more.go:42", after := #[{ on := 0, ground := Ground.data }, { on := 3, ground := Ground.data }], guard := none }) (d := 101) (v := .bool true) hF hS rfl rfl (by decide) (by kernel_rfl) (by kernel_rfl) (by kernel_rfl) (by kernel_rfl) (fun _ _ _ h => h) (fun a' hA => wanted_none rfl) (fun a' hA w' hw => by have e97 := hA.get 97 rfl; have e100 := hA.get 100 rfl; have ec : ∀ v, a'.eval (.const v) = v := fun _ => rfl; clear hA; generalize a'.eval = ρ at *; simp [go_sem, ec, e97, e100, hlt, hlti]; try rfl) ?_
    clear hF
    intro hF
    refine take_fp 5 [6, 7, 8, 9, 10, 11, 12, 13, 14, 15, 16, 17, 18, 19, 20, 21, 22, 23, 24, 25, 26, 27, 28, 29, 30, 31, 32, 33, 34, 35, 36, 37, 38, 39] (oi := { dst := some 102, op := Op.move (Operand.tmp 101), type := 4, pos := "more.go:42", after := #[{ on := 4, ground := Ground.data }], guard := none }) (d := 102) (v := .bool true) hF hS rfl rfl (by decide) (by kernel_rfl) (by kernel_rfl) (by kernel_rfl) (by kernel_rfl) (fun _ _ _ h => h) (fun a' hA => wanted_none rfl) (run_move_fs rfl rfl) ?_
    clear hF
    intro hF
    refine take_fp 6 [12, 13, 14, 15, 16, 17, 18, 19, 20, 21, 22, 23, 24, 25, 26, 27, 28, 29, 30, 31, 32, 33, 34, 35, 36, 37, 38, 39] (oi := { dst := some 103, op := Op.load 26 (Operand.tmp 15), type := 26, pos := "more.go:42", after := #[{ on := 5, ground := Ground.guard }], guard := some (5, true) }) (d := 103) (v := .agg #[.int .i64 y.h.k, .int .i64 y.h.m, .int .i64 y.h.f, .int .i64 y.h.t, .slice y.h.np y.h.nn y.h.nc, .slice y.h.kp y.h.kn y.h.kc]) hF hS rfl rfl (by decide) (by kernel_rfl) (by kernel_rfl) (by kernel_rfl) (by kernel_rfl) (fun _ _ _ h => h) (fun a' hA => hA.wantedB (j := 5) (dj := 102) (b := true) rfl (by kernel_rfl) (by decide) rfl) (fun a' hA w' hw => by have e15 := hA.get 15 rfl; have ec : ∀ v, a'.eval (.const v) = v := fun _ => rfl; have q0 := (hw.cell (p := ⟨kb, 0, none⟩) HKL.out).trans (HKB.out 0 _ rfl); have q1 := (hw.cell (p := ⟨kb, 1, none⟩) HKL.out).trans (HKB.out 1 _ rfl); have q2 := (hw.cell (p := ⟨kb, 2, none⟩) HKL.out).trans (HKB.out 2 _ rfl); have q3 := (hw.cell (p := ⟨kb, 3, none⟩) HKL.out).trans (HKB.out 3 _ rfl); have q4 := (hw.cell (p := ⟨kb, 4, none⟩) HKL.out).trans (HKB.out 4 _ rfl); have q5 := (hw.cell (p := ⟨kb, 5, none⟩) HKL.out).trans (HKB.out 5 _ rfl); clear hA; generalize a'.eval = ρ at *; simp [go_sem, ec, e15, q0, q1, q2, q3, q4, q5]; try rfl) ?_
    clear hF
    intro hF
    refine take_fp 7 [8, 10, 11, 12, 13, 14, 15, 16, 17, 18, 19, 20, 21, 22, 23, 24, 25, 26, 27, 28, 29, 30, 31, 32, 33, 34, 35, 36, 37, 38, 39] (oi := { dst := some 104, op := Op.fieldAddr 26 (Operand.tmp 5) 5, type := 0, pos := "more.go:42", after := #[{ on := 5, ground := Ground.guard }], guard := some (5, true) }) (d := 104) (v := .pointer (some ⟨p1, 5, none⟩)) hF hS rfl rfl (by decide) (by kernel_rfl) (by kernel_rfl) (by kernel_rfl) (by kernel_rfl) (fun _ _ _ h => h) (fun a' hA => hA.wantedB (j := 5) (dj := 102) (b := true) rfl (by kernel_rfl) (by decide) rfl) (fun a' hA w' hw => by have e5 := hA.get 5 rfl; have ec : ∀ v, a'.eval (.const v) = v := fun _ => rfl; clear hA; generalize a'.eval = ρ at *; simp [go_sem, ec, e5]; try rfl) ?_
    clear hF
    intro hF
    refine take_fp 8 [10, 11, 12, 13, 14, 15, 16, 17, 18, 19, 20, 21, 22, 23, 24, 25, 26, 27, 28, 29, 30, 31, 32, 33, 34, 35, 36, 37, 38, 39] (oi := { dst := some 105, op := Op.load 24 (Operand.tmp 104), type := 24, pos := "more.go:42", after := #[{ on := 7, ground := Ground.data }, { on := 5, ground := Ground.guard }], guard := some (5, true) }) (d := 105) (v := .slice (some ⟨b1, o1, none⟩) kn1 kc1) hF hS rfl rfl (by decide) (by kernel_rfl) (by kernel_rfl) (by kernel_rfl) (by kernel_rfl) (fun _ _ _ h => h) (fun a' hA => hA.wantedB (j := 5) (dj := 102) (b := true) rfl (by kernel_rfl) (by decide) rfl) (fun a' hA w' hw => by have e104 := hA.get 104 rfl; have ec : ∀ v, a'.eval (.const v) = v := fun _ => rfl; have q0 := (hw.cell (p := ⟨p1, 5, none⟩) HL1.out).trans HQ15.out; clear hA; generalize a'.eval = ρ at *; simp [go_sem, ec, e104, q0]; try rfl) ?_
    clear hF
    intro hF
    refine take_fp 9 [10, 11, 12, 13, 14, 15, 16, 17, 18, 19, 20, 21, 22, 23, 24, 25, 26, 27, 28, 29, 30, 31, 32, 33, 34, 35, 36, 37, 38, 39] (oi := { dst := some 106, op := Op.move (Operand.tmp 14), type := 3, pos := "more.go:42", after := #[{ on := 5, ground := Ground.guard }], guard := some (5, true) }) (d := 106) (v := .int .i64 (i : Int)) hF hS rfl rfl (by decide) (by kernel_rfl) (by kernel_rfl) (by kernel_rfl) (by kernel_rfl) (fun _ _ _ h => h) (fun a' hA => hA.wantedB (j := 5) (dj := 102) (b := true) rfl (by kernel_rfl) (by decide) rfl) (run_move_fs rfl rfl) ?_
    clear hF
    intro hF
    refine take_fp 10 [11, 12, 13, 14, 15, 16, 17, 18, 19, 20, 21, 22, 23, 24, 25, 26, 27, 28, 29, 30, 31, 32, 33, 34, 35, 36, 37, 38, 39] (oi := { dst := some 107, op := Op.indexAddr 24 (Operand.tmp 105) (Operand.tmp 106), type := 0, pos := "more.go:42", after := #[{ on := 8, ground := Ground.data }, { on := 9, ground := Ground.data }, { on := 5, ground := Ground.guard }], guard := some (5, true) }) (d := 107) (v := .pointer (some ⟨b1, o1 + i * 6, none⟩)) hF hS rfl rfl (by decide) (by kernel_rfl) (by kernel_rfl) (by kernel_rfl) (by kernel_rfl) (fun _ _ _ h => h) (fun a' hA => hA.wantedB (j := 5) (dj := 102) (b := true) rfl (by kernel_rfl) (by decide) rfl) (fun a' hA w' hw => by have e105 := hA.get 105 rfl; have e106 := hA.get 106 rfl; have ec : ∀ v, a'.eval (.const v) = v := fun _ => rfl; clear hA; generalize a'.eval = ρ at *; simp [go_sem, ec, e105, e106, hx1, hx2]; try rfl) ?_
    clear hF
    intro hF
    refine take_fp 11 [12, 13, 14, 15, 16, 17, 18, 19, 20, 21, 22, 23, 24, 25, 26, 27, 28, 29, 30, 31, 32, 33, 34, 35, 36, 37, 38, 39] (oi := { dst := some 108, op := Op.load 26 (Operand.tmp 107), type := 26, pos := "more.go:42", after := #[{ on := 10, ground := Ground.data }, { on := 5, ground := Ground.guard }], guard := some (5, true) }) (d := 108) (v := .agg #[.int .i64 x.h.k, .int .i64 x.h.m, .int .i64 x.h.f, .int .i64 x.h.t, .slice x.h.np x.h.nn x.h.nc, .slice x.h.kp x.h.kn x.h.kc]) hF hS rfl rfl (by decide) (by kernel_rfl) (by kernel_rfl) (by kernel_rfl) (by kernel_rfl) (fun _ _ _ h => h) (fun a' hA => hA.wantedB (j := 5) (dj := 102) (b := true) rfl (by kernel_rfl) (by decide) rfl) (fun a' hA w' hw => by have e107 := hA.get 107 rfl; have ec : ∀ v, a'.eval (.const v) = v := fun _ => rfl; obtain ⟨q0, q1, q2, q3, q4, q5⟩ := HXC.out _ hw; clear hA; generalize a'.eval = ρ at *; simp [go_sem, ec, e107, q0, q1, q2, q3, q4, q5]; try rfl) ?_
    clear hF
    intro hF
    refine call_fp 12 (oi := { dst := some 109, op := Op.call { callee := Callee.value (Operand.func 10), args := #[Operand.tmp 103, Operand.tmp 108], argTypes := #[26, 26] }, type := 4, pos := "more.go:42", after := #[{ on := 6, ground := Ground.data }, { on := 11, ground := Ground.data }, { on := 5, ground := Ground.chain }, { on := 5, ground := Ground.guard }], guard := some (5, true) }) (d := 109) (R := fun e w' => e = .returned (.bool true) ∧ Below W1.heap.size W1 w') hF rfl rfl (by decide) (by kernel_rfl) (fun a' hA => hA.wantedB (j := 5) (dj := 102) (b := true) rfl (by kernel_rfl) (by decide) rfl) (fun a' hA => by have e103 := hA.get 103 rfl; have e108 := hA.get 108 rfl; have ef : ∀ f, a'.eval (.func f) = .func (.func f) #[] #[] := fun _ => rfl; have ec : ∀ v, a'.eval (.const v) = v := fun _ => rfl; clear hA; generalize a'.eval = ρ at *; simp [go_sem, ef, ec, e103, e108]) ((HX.out _ hS).mono (by rintro e w' ⟨rfl, hb⟩; exact ⟨rfl, hS.trans (hb.mono hS.size)⟩)) (by rintro w' ⟨h, _⟩; cases h) (by rintro ch w' ⟨h, _⟩; cases h) ?_
    rintro v12 w12x ⟨h, hb⟩
    have h := Ending.returned.inj h
    subst h
    refine ⟨fun _ => hb, ?_⟩
    clear hS
    have hS : (fun W : World => Below W1.heap.size W1 W) w12x := hb
    clear hb hF
    intro hF
    refine take_fp 13 [14, 15, 16, 17, 18, 19, 20, 21, 22, 23, 24, 25, 26, 27, 28, 29, 30, 31, 32, 33, 34, 35, 36, 37, 38, 39] (oi := { dst := some 110, op := Op.unOp UnOp.not 4 (Operand.tmp 109), type := 4, pos := "more.go:42", after := #[{ on := 12, ground := Ground.data }, { on := 5, ground := Ground.guard }], guard := some (5, true) }) (d := 110) (v := .bool false) hF hS rfl rfl (by decide) (by kernel_rfl) (by kernel_rfl) (by kernel_rfl) (by kernel_rfl) (fun _ _ _ h => h) (fun a' hA => hA.wantedB (j := 5) (dj := 102) (b := true) rfl (by kernel_rfl) (by decide) rfl) (fun a' hA w' hw => by have e109 := hA.get 109 rfl; have ec : ∀ v, a'.eval (.const v) = v := fun _ => rfl; clear hA; generalize a'.eval = ρ at *; simp [go_sem, ec, e109]; try rfl) ?_
    clear hF
    intro hF
    refine take_fp 14 [15, 16, 17, 18, 19, 20, 21, 22, 23, 24, 25, 26, 27, 28, 29, 30, 31, 32, 33, 34, 35, 36, 37, 38, 39] (oi := { dst := some 111, op := Op.pick (Operand.tmp 102) (Operand.tmp 110) (Operand.const (Value.bool false)), type := 4, pos := "more.go:42", after := #[{ on := 5, ground := Ground.data }, { on := 13, ground := Ground.data }], guard := none }) (d := 111) (v := .bool false) hF hS rfl rfl (by decide) (by kernel_rfl) (by kernel_rfl) (by kernel_rfl) (by kernel_rfl) (fun _ _ _ h => h) (fun a' hA => wanted_none rfl) (fun a' hA w' hw => by have e102 := hA.get 102 rfl; have e110 := hA.get 110 rfl; have ec : ∀ v, a'.eval (.const v) = v := fun _ => rfl; clear hA; generalize a'.eval = ρ at *; simp [go_sem, ec, e102, e110]; try rfl) ?_
    clear hF
    intro hF
    refine take_fp 15 [16, 17, 18, 19, 20, 21, 22, 23, 24, 25, 26, 27, 28, 29, 30, 31, 32, 33, 34, 35, 36, 37, 38, 39] (oi := { dst := some 112, op := Op.move (Operand.tmp 111), type := 4, pos := "more.go:42", after := #[{ on := 14, ground := Ground.data }, { on := 12, ground := Ground.chain }], guard := none }) (d := 112) (v := .bool false) hF hS rfl rfl (by decide) (by kernel_rfl) (by kernel_rfl) (by kernel_rfl) (by kernel_rfl) (fun _ _ _ h => h) (fun a' hA => wanted_none rfl) (run_move_fs rfl rfl) ?_
    clear hF
    intro hF
    refine take_fp 16 [20, 21, 22, 23, 24, 25, 26, 27, 28, 29, 30, 31, 32, 33, 34, 35, 36, 37, 38, 39] (oi := { dst := some 113, op := Op.move (Operand.tmp 14), type := 3, pos := "more.go:42", after := #[{ on := 15, ground := Ground.guard }], guard := some (15, false) }) (d := 113) (v := .int .i64 (i : Int)) hF hS rfl rfl (by decide) (by kernel_rfl) (by kernel_rfl) (by kernel_rfl) (by kernel_rfl) (fun _ _ _ h => h) (fun a' hA => hA.wantedB (j := 15) (dj := 112) (b := false) rfl (by kernel_rfl) (by decide) rfl) (run_move_fs rfl rfl) ?_
    clear hF
    intro hF
    refine take_fp 17 [18, 19, 20, 21, 22, 23, 24, 25, 26, 27, 28, 29, 30, 31, 32, 33, 34, 35, 36, 37, 38, 39] (oi := { dst := some 114, op := Op.fieldAddr 26 (Operand.tmp 5) 5, type := 0, pos := "more.go:42", after := #[{ on := 15, ground := Ground.guard }], guard := some (15, false) }) (d := 114) (v := .pointer (some ⟨p1, 5, none⟩)) hF hS rfl rfl (by decide) (by kernel_rfl) (by kernel_rfl) (by kernel_rfl) (by kernel_rfl) (fun _ _ _ h => h) (fun a' hA => hA.wantedB (j := 15) (dj := 112) (b := false) rfl (by kernel_rfl) (by decide) rfl) (fun a' hA w' hw => by have e5 := hA.get 5 rfl; have ec : ∀ v, a'.eval (.const v) = v := fun _ => rfl; clear hA; generalize a'.eval = ρ at *; simp [go_sem, ec, e5]; try rfl) ?_
    clear hF
    intro hF
    refine take_fp 18 [19, 20, 21, 22, 23, 24, 25, 26, 27, 28, 29, 30, 31, 32, 33, 34, 35, 36, 37, 38, 39] (oi := { dst := some 115, op := Op.load 24 (Operand.tmp 114), type := 24, pos := "more.go:42", after := #[{ on := 17, ground := Ground.data }, { on := 15, ground := Ground.guard }], guard := some (15, false) }) (d := 115) (v := .slice (some ⟨b1, o1, none⟩) kn1 kc1) hF hS rfl rfl (by decide) (by kernel_rfl) (by kernel_rfl) (by kernel_rfl) (by kernel_rfl) (fun _ _ _ h => h) (fun a' hA => hA.wantedB (j := 15) (dj := 112) (b := false) rfl (by kernel_rfl) (by decide) rfl) (fun a' hA w' hw => by have e114 := hA.get 114 rfl; have ec : ∀ v, a'.eval (.const v) = v := fun _ => rfl; have q0 := (hw.cell (p := ⟨p1, 5, none⟩) HL1.out).trans HQ15.out; clear hA; generalize a'.eval = ρ at *; simp [go_sem, ec, e114, q0]; try rfl) ?_
    clear hF
    intro hF
    refine take_fp 19 [20, 21, 22, 23, 24, 25, 26, 27, 28, 29, 30, 31, 32, 33, 34, 35, 36, 37, 38, 39] (oi := { dst := some 116, op := Op.call { callee := Callee.builtin Builtin.len, args := #[Operand.tmp 115], argTypes := #[24] }, type := 3, pos := "more.go:42", after := #[{ on := 18, ground := Ground.data }, { on := 15, ground := Ground.guard }], guard := some (15, false) }) (d := 116) (v := .int .i64 (kn1 : Int)) hF hS rfl rfl (by decide) (by kernel_rfl) (by kernel_rfl) (by kernel_rfl) (by kernel_rfl) (fun _ _ _ h => h) (fun a' hA => hA.wantedB (j := 15) (dj := 112) (b := false) rfl (by kernel_rfl) (by decide) rfl) (fun a' hA w' hw => by have e115 := hA.get 115 rfl; have ec : ∀ v, a'.eval (.const v) = v := fun _ => rfl; clear hA; generalize a'.eval = ρ at *; simp [go_sem, ec, e115]; try rfl) ?_
    clear hF
    intro hF
    refine take_fp 20 [21, 22, 23, 24, 25, 26, 27, 28, 29, 30, 31, 32, 33, 34, 35, 36, 37, 38, 39] (oi := { dst := some 117, op := Op.binOp BinOp.geq 3 (Operand.tmp 113) (Operand.tmp 116) 3, type := 4, pos := "more.go:42", after := #[{ on := 16, ground := Ground.data }, { on := 19, ground := Ground.data }, { on := 15, ground := Ground.guard }], guard := some (15, false) }) (d := 117) (v := .bool false) hF hS rfl rfl (by decide) (by kernel_rfl) (by kernel_rfl) (by kernel_rfl) (by kernel_rfl) (fun _ _ _ h => h) (fun a' hA => hA.wantedB (j := 15) (dj := 112) (b := false) rfl (by kernel_rfl) (by decide) rfl) (fun a' hA w' hw => by have e113 := hA.get 113 rfl; have e116 := hA.get 116 rfl; have ec : ∀ v, a'.eval (.const v) = v := fun _ => rfl; clear hA; generalize a'.eval = ρ at *; simp [go_sem, ec, e113, e116, hle, hlei]; try rfl) ?_
    clear hF
    intro hF
    refine take_fp 21 [22, 23, 24, 25, 26, 27, 28, 29, 30, 31, 32, 33, 34, 35, 36, 37, 38, 39] (oi := { dst := some 118, op := Op.move (Operand.tmp 117), type := 4, pos := "more.go:42", after := #[{ on := 20, ground := Ground.data }, { on := 15, ground := Ground.chain }, { on := 15, ground := Ground.guard }], guard := some (15, false) }) (d := 118) (v := .bool false) hF hS rfl rfl (by decide) (by kernel_rfl) (by kernel_rfl) (by kernel_rfl) (by kernel_rfl) (fun _ _ _ h => h) (fun a' hA => hA.wantedB (j := 15) (dj := 112) (b := false) rfl (by kernel_rfl) (by decide) rfl) (run_move_fs rfl rfl) ?_
    clear hF
    intro hF
    refine skip_fp 22 [36, 37, 38, 39] (oi := { dst := some 119, op := Op.load 26 (Operand.tmp 15), type := 26, pos := "more.go:42", after := #[{ on := 21, ground := Ground.guard }], guard := some (21, true) }) (d := 119) hF hS rfl rfl (by decide) (by kernel_rfl) (by kernel_rfl) (by kernel_rfl) (by kernel_rfl) (fun _ _ _ h => h) (fun a' hA => hA.unwanted (j := 21) (dj := 118) (b := true) (v := .bool false) rfl (by kernel_rfl) (by decide) rfl (by intro h; cases h)) ?_
    clear hF
    intro hF
    refine skip_fp 23 [24, 30, 31, 35, 36, 37, 38, 39] (oi := { dst := some 120, op := Op.fieldAddr 26 (Operand.tmp 8) 5, type := 0, pos := "more.go:42", after := #[{ on := 21, ground := Ground.guard }], guard := some (21, true) }) (d := 120) hF hS rfl rfl (by decide) (by kernel_rfl) (by kernel_rfl) (by kernel_rfl) (by kernel_rfl) (fun _ _ _ h => h) (fun a' hA => hA.unwanted (j := 21) (dj := 118) (b := true) (v := .bool false) rfl (by kernel_rfl) (by decide) rfl (by intro h; cases h)) ?_
    clear hF
    intro hF
    refine skip_fp 24 [30, 31, 35, 36, 37, 38, 39] (oi := { dst := some 121, op := Op.load 24 (Operand.tmp 120), type := 24, pos := "more.go:42", after := #[{ on := 23, ground := Ground.data }, { on := 21, ground := Ground.guard }], guard := some (21, true) }) (d := 121) hF hS rfl rfl (by decide) (by kernel_rfl) (by kernel_rfl) (by kernel_rfl) (by kernel_rfl) (fun _ _ _ h => h) (fun a' hA => hA.unwanted (j := 21) (dj := 118) (b := true) (v := .bool false) rfl (by kernel_rfl) (by decide) rfl (by intro h; cases h)) ?_
    clear hF
    intro hF
    refine skip_fp 25 [29, 30, 31, 35, 36, 37, 38, 39] (oi := { dst := some 122, op := Op.move (Operand.tmp 14), type := 3, pos := "more.go:42", after := #[{ on := 21, ground := Ground.guard }], guard := some (21, true) }) (d := 122) hF hS rfl rfl (by decide) (by kernel_rfl) (by kernel_rfl) (by kernel_rfl) (by kernel_rfl) (fun _ _ _ h => h) (fun a' hA => hA.unwanted (j := 21) (dj := 118) (b := true) (v := .bool false) rfl (by kernel_rfl) (by decide) rfl (by intro h; cases h)) ?_
    clear hF
    intro hF
    refine skip_fp 26 [27, 28, 29, 30, 31, 35, 36, 37, 38, 39] (oi := { dst := some 123, op := Op.fieldAddr 26 (Operand.tmp 5) 5, type := 0, pos := "more.go:42", after := #[{ on := 21, ground := Ground.guard }], guard := some (21, true) }) (d := 123) hF hS rfl rfl (by decide) (by kernel_rfl) (by kernel_rfl) (by kernel_rfl) (by kernel_rfl) (fun _ _ _ h => h) (fun a' hA => hA.unwanted (j := 21) (dj := 118) (b := true) (v := .bool false) rfl (by kernel_rfl) (by decide) rfl (by intro h; cases h)) ?_
    clear hF
    intro hF
    refine skip_fp 27 [28, 29, 30, 31, 35, 36, 37, 38, 39] (oi := { dst := some 124, op := Op.load 24 (Operand.tmp 123), type := 24, pos := "more.go:42", after := #[{ on := 26, ground := Ground.data }, { on := 21, ground := Ground.guard }], guard := some (21, true) }) (d := 124) hF hS rfl rfl (by decide) (by kernel_rfl) (by kernel_rfl) (by kernel_rfl) (by kernel_rfl) (fun _ _ _ h => h) (fun a' hA => hA.unwanted (j := 21) (dj := 118) (b := true) (v := .bool false) rfl (by kernel_rfl) (by decide) rfl (by intro h; cases h)) ?_
    clear hF
    intro hF
    refine skip_fp 28 [29, 30, 31, 35, 36, 37, 38, 39] (oi := { dst := some 125, op := Op.call { callee := Callee.builtin Builtin.len, args := #[Operand.tmp 124], argTypes := #[24] }, type := 3, pos := "more.go:42", after := #[{ on := 27, ground := Ground.data }, { on := 21, ground := Ground.guard }], guard := some (21, true) }) (d := 125) hF hS rfl rfl (by decide) (by kernel_rfl) (by kernel_rfl) (by kernel_rfl) (by kernel_rfl) (fun _ _ _ h => h) (fun a' hA => hA.unwanted (j := 21) (dj := 118) (b := true) (v := .bool false) rfl (by kernel_rfl) (by decide) rfl (by intro h; cases h)) ?_
    clear hF
    intro hF
    refine skip_fp 29 [30, 31, 35, 36, 37, 38, 39] (oi := { dst := some 126, op := Op.binOp BinOp.sub 3 (Operand.tmp 122) (Operand.tmp 125) 3, type := 3, pos := "more.go:42", after := #[{ on := 25, ground := Ground.data }, { on := 28, ground := Ground.data }, { on := 21, ground := Ground.guard }], guard := some (21, true) }) (d := 126) hF hS rfl rfl (by decide) (by kernel_rfl) (by kernel_rfl) (by kernel_rfl) (by kernel_rfl) (fun _ _ _ h => h) (fun a' hA => hA.unwanted (j := 21) (dj := 118) (b := true) (v := .bool false) rfl (by kernel_rfl) (by decide) rfl (by intro h; cases h)) ?_
    clear hF
    intro hF
    refine skip_fp 30 [31, 35, 36, 37, 38, 39] (oi := { dst := some 127, op := Op.indexAddr 24 (Operand.tmp 121) (Operand.tmp 126), type := 0, pos := "more.go:42", after := #[{ on := 24, ground := Ground.data }, { on := 29, ground := Ground.data }, { on := 21, ground := Ground.guard }], guard := some (21, true) }) (d := 127) hF hS rfl rfl (by decide) (by kernel_rfl) (by kernel_rfl) (by kernel_rfl) (by kernel_rfl) (fun _ _ _ h => h) (fun a' hA => hA.unwanted (j := 21) (dj := 118) (b := true) (v := .bool false) rfl (by kernel_rfl) (by decide) rfl (by intro h; cases h)) ?_
    clear hF
    intro hF
    refine skip_fp 31 [35, 36, 37, 38, 39] (oi := { dst := some 128, op := Op.load 26 (Operand.tmp 127), type := 26, pos := "more.go:42", after := #[{ on := 30, ground := Ground.data }, { on := 21, ground := Ground.guard }], guard := some (21, true) }) (d := 128) hF hS rfl rfl (by decide) (by kernel_rfl) (by kernel_rfl) (by kernel_rfl) (by kernel_rfl) (fun _ _ _ h => h) (fun a' hA => hA.unwanted (j := 21) (dj := 118) (b := true) (v := .bool false) rfl (by kernel_rfl) (by decide) rfl (by intro h; cases h)) ?_
    clear hF
    intro hF
    refine skip_fp 32 [33, 34, 35, 36, 37, 38, 39] (oi := { dst := some 129, op := Op.fieldAddr 26 (Operand.tmp 5) 3, type := 0, pos := "more.go:42", after := #[{ on := 21, ground := Ground.guard }], guard := some (21, true) }) (d := 129) hF hS rfl rfl (by decide) (by kernel_rfl) (by kernel_rfl) (by kernel_rfl) (by kernel_rfl) (fun _ _ _ h => h) (fun a' hA => hA.unwanted (j := 21) (dj := 118) (b := true) (v := .bool false) rfl (by kernel_rfl) (by decide) rfl (by intro h; cases h)) ?_
    clear hF
    intro hF
    refine skip_fp 33 [34, 35, 36, 37, 38, 39] (oi := { dst := some 130, op := Op.load 3 (Operand.tmp 129), type := 3, pos := "more.go:42", after := #[{ on := 32, ground := Ground.data }, { on := 21, ground := Ground.guard }], guard := some (21, true) }) (d := 130) hF hS rfl rfl (by decide) (by kernel_rfl) (by kernel_rfl) (by kernel_rfl) (by kernel_rfl) (fun _ _ _ h => h) (fun a' hA => hA.unwanted (j := 21) (dj := 118) (b := true) (v := .bool false) rfl (by kernel_rfl) (by decide) rfl (by intro h; cases h)) ?_
    clear hF
    intro hF
    refine skip_fp 34 [35, 36, 37, 38, 39] (oi := { dst := some 131, op := Op.binOp BinOp.add 3 (Operand.tmp 130) (Operand.const (Value.int IntKind.i64 1)) 3, type := 3, pos := "more.go:42", after := #[{ on := 33, ground := Ground.data }, { on := 21, ground := Ground.guard }], guard := some (21, true) }) (d := 131) hF hS rfl rfl (by decide) (by kernel_rfl) (by kernel_rfl) (by kernel_rfl) (by kernel_rfl) (fun _ _ _ h => h) (fun a' hA => hA.unwanted (j := 21) (dj := 118) (b := true) (v := .bool false) rfl (by kernel_rfl) (by decide) rfl (by intro h; cases h)) ?_
    clear hF
    intro hF
    refine skip_fp 35 [36, 37, 38, 39] (oi := { dst := some 132, op := Op.call { callee := Callee.value (Operand.func 19), args := #[Operand.tmp 128, Operand.tmp 131], argTypes := #[26, 3] }, type := 26, pos := "more.go:42", after := #[{ on := 31, ground := Ground.data }, { on := 34, ground := Ground.data }, { on := 21, ground := Ground.chain }, { on := 21, ground := Ground.guard }], guard := some (21, true) }) (d := 132) hF hS rfl rfl (by decide) (by kernel_rfl) (by kernel_rfl) (by kernel_rfl) (by kernel_rfl) (fun _ _ _ h => h) (fun a' hA => hA.unwanted (j := 21) (dj := 118) (b := true) (v := .bool false) rfl (by kernel_rfl) (by decide) rfl (by intro h; cases h)) ?_
    clear hF
    intro hF
    refine skip_fp 36 [37, 38, 39] (oi := { dst := some 133, op := Op.call { callee := Callee.value (Operand.func 10), args := #[Operand.tmp 119, Operand.tmp 132], argTypes := #[26, 26] }, type := 4, pos := "more.go:42", after := #[{ on := 22, ground := Ground.data }, { on := 35, ground := Ground.data }, { on := 35, ground := Ground.chain }, { on := 21, ground := Ground.guard }], guard := some (21, true) }) (d := 133) hF hS rfl rfl (by decide) (by kernel_rfl) (by kernel_rfl) (by kernel_rfl) (by kernel_rfl) (fun _ _ _ h => h) (fun a' hA => hA.unwanted (j := 21) (dj := 118) (b := true) (v := .bool false) rfl (by kernel_rfl) (by decide) rfl (by intro h; cases h)) ?_
    clear hF
    intro hF
    refine skip_fp 37 [38, 39] (oi := { dst := some 134, op := Op.unOp UnOp.not 4 (Operand.tmp 133), type := 4, pos := "more.go:42", after := #[{ on := 36, ground := Ground.data }, { on := 21, ground := Ground.guard }], guard := some (21, true) }) (d := 134) hF hS rfl rfl (by decide) (by kernel_rfl) (by kernel_rfl) (by kernel_rfl) (by kernel_rfl) (fun _ _ _ h => h) (fun a' hA => hA.unwanted (j := 21) (dj := 118) (b := true) (v := .bool false) rfl (by kernel_rfl) (by decide) rfl (by intro h; cases h)) ?_
    clear hF
    intro hF
    refine take_fp 38 [39] (oi := { dst := some 135, op := Op.pick (Operand.tmp 118) (Operand.tmp 134) (Operand.const (Value.bool false)), type := 4, pos := "more.go:42", after := #[{ on := 21, ground := Ground.data }, { on := 37, ground := Ground.data }, { on := 15, ground := Ground.guard }], guard := some (15, false) }) (d := 135) (v := .bool false) hF hS rfl rfl (by decide) (by kernel_rfl) (by kernel_rfl) (by kernel_rfl) (by kernel_rfl) (fun _ _ _ h => h) (fun a' hA => hA.wantedB (j := 15) (dj := 112) (b := false) rfl (by kernel_rfl) (by decide) rfl) (fun a' hA w' hw => by have e118 := hA.get 118 rfl; have e134 := hA.get 134 rfl; have ec : ∀ v, a'.eval (.const v) = v := fun _ => rfl; clear hA; generalize a'.eval = ρ at *; simp [go_sem, ec, e118, e134]; try rfl) ?_
    clear hF
    intro hF
    refine one_fp 39 (oi := { dst := some 136, op := Op.pick (Operand.tmp 112) (Operand.const (Value.bool true)) (Operand.tmp 135), type := 4, pos := "more.go:42", after := #[{ on := 15, ground := Ground.data }, { on := 38, ground := Ground.data }], guard := none }) (d := 136) (v := .bool false) hF rfl rfl (by decide) (by kernel_rfl) (by kernel_rfl) (fun a' hA => wanted_none rfl) (fun a' hA => by have e112 := hA.get 112 rfl; have e135 := hA.get 135 rfl; have ec : ∀ v, a'.eval (.const v) = v := fun _ => rfl; clear hA; generalize a'.eval = ρ at *; simp [go_sem, ec, e112, e135]; try rfl) ?_
    clear hF
    intro hF
    refine wpTill_done (by kernel_rfl) ?_ _
    subst ha0
    simp only [Act.put, List.setIfInBounds_toArray, List.set_cons_zero, List.set_cons_succ]
    have HBW := Lib.hid (HBE.out.trans (hS.mono HBE.out.size))
    clear hF hS
    go_wp2_with fail
    go_roundw
    case rel => exact ⟨i + 1, by omega, by go_num, HBW.out⟩
    case measure => simp [intOf]; omega
   ·obtain ⟨i2, hi2'⟩ : ∃ i2 : Nat, i = kn1 + i2 := ⟨i - kn1, by omega⟩
    have h2 : i2 < ks2.length := by have := HS12.out; rw [← HN2.out]; omega
    obtain ⟨b2, o2, rfl, _, hb2x, hat2⟩ := HKI2.out.2.resolve_left (by have := HS12.out; omega)
    have hmem2 := List.getElem_mem h2
    have hL2 := (HLY2.out _ hmem2).step _ hbe1
    have HXC : Hid (∀ W, Below (wr.alloc (BC ks3[i].h)).heap.size (wr.alloc (BC ks3[i].h)) W → BrAt W b2 (o2 + i2 * 6) ks2[i2].h) := Lib.hid fun W hW => (((hat2 i2 h2).step hb2x hbe1).step (Nat.lt_of_lt_of_le hb2x hbe1.size) hW)
    have HMV : Hid (∀ W, Below (wr.alloc (BC ks3[i].h)).heap.size (wr.alloc (BC ks3[i].h)) W → Calls Tryz.prog 19 #[ks2[i2].h.val, .int .i64 (cc : Int)] W fun e w' => ∃ v, e = .returned v ∧ RB W (ks2[i2].pb.on cc) v w' ∧ Below W.heap.size W w') := Lib.hid fun W hW => moved_any ks2[i2] cc W (hL2.step _ hW) (HW2.out _ hmem2) (HR2.out _ hmem2).1 (HR2.out _ hmem2).2 HC2.out
    have HX : Hid (∀ W, Below (wr.alloc (BC ks3[i].h)).heap.size (wr.alloc (BC ks3[i].h)) W → ∀ z : Br, z.Lies W → z.pb = ks2[i2].pb.on cc → Calls Tryz.prog 10 #[ks3[i].h.val, z.h.val] W fun e w' => e = .returned (.bool true) ∧ Below W.heap.size W w') := Lib.hid fun W hW z hz hp => by
     have := refSame_any ks3[i] z W (hLY.step _ hW) hz (HW3.out _ hmem3)
     rw [same_pb _ _ (by rw [hp]; exact HE2.out i i2 h3 h2 (by rw [← HN1.out]; exact hi2'))] at this
     exact this
    have hlt : ¬ i < kn1 := hc
    have hlti : ¬ (i : Int) < (kn1 : Int) := by omega
    have hle : kn1 ≤ i := by omega
    have hlei : (kn1 : Int) ≤ (i : Int) := by omega
    have hi2 : (i : Int) - (kn1 : Int) = (i2 : Int) := by omega
    have hi2w : IntKind.i64.wrap (i2 : Int) = (i2 : Int) := IntWalk.i64_in _ (by have := HS12.out; omega)
    have hc1 := HC1.out
    have hc1w : IntKind.i64.wrap (cc : Int) = (cc : Int) := IntWalk.i64_in _ (by have := HC2.out; omega)
    have hx1 : (0 : Int) ≤ (i2 : Int) := by omega
    have hx2 : (i2 : Int) < (kn2 : Int) := by rw [HN2.out]; omega
    have HI2 := Lib.hid hi2'
    have H12 := Lib.hid (And.intro hi2 (And.intro hi2w (And.intro hc1 hc1w)))
    clear hat2 hat3 hmem2 hmem3 hL2 hLY hB1 hbe1 hnew q15 q25 qa3 qa5 qb5 hbe hi2' hi2 hi2w hc1 hc1w
    generalize ks3[i] = y at *
    generalize ks2[i2] = x at *
    go_wp2_with fail
    obtain ⟨hi2, hi2w, hc1, hc1w⟩ := H12.out
    generalize wr.heap.size = kb at *
    generalize wr.alloc (BC y.h) = W1 at *
    refine wp_region_till (fun W : World => Below W1.heap.size W1 W) 39 (by kernel_rfl) ?_
    have hS : (fun W : World => Below W1.heap.size W1 W) W1.drew := (Below.refl _ _).drew
    refine start_fp (N := 139) [(5, .pointer (some ⟨p1, 0, none⟩)), (8, .pointer (some ⟨p2, 0, none⟩)), (14, .int .i64 (i : Int)), (15, .pointer (some ⟨kb, 0, none⟩))] (Fs.of rfl rfl (by simp [Act.eval])) ?_
    intro a0 ha0 hF
    refine take_fp 0 [4, 5, 6, 7, 8, 9, 10, 11, 12, 13, 14, 15, 16, 17, 18, 19, 20, 21, 22, 23, 24, 25, 26, 27, 28, 29, 30, 31, 32, 33, 34, 35, 36, 37, 38, 39] (oi := { dst := some 97, op := Op.move (Operand.tmp 14), type := 3, pos := "more.go:42", after := #[], guard := none }) (d := 97) (v := .int .i64 (i : Int)) hF hS rfl rfl (by decide) (by kernel_rfl) (by kernel_rfl) (by kernel_rfl) (by kernel_rfl) (fun _ _ _ h => h) (fun a' hA => wanted_none rfl) (run_move_fs rfl rfl) ?_
    clear hF
    intro hF
    refine take_fp 1 [2, 3, 4, 5, 6, 7, 8, 9, 10, 11, 12, 13, 14, 15, 16, 17, 18, 19, 20, 21, 22, 23, 24, 25, 26, 27, 28, 29, 30, 31, 32, 33, 34, 35, 36, 37, 38, 39] (oi := { dst := some 98, op := Op.fieldAddr 26 (Operand.tmp 5) 5, type := 0, pos := "more.go:42", after := #[], guard := none }) (d := 98) (v := .pointer (some ⟨p1, 5, none⟩)) hF hS rfl rfl (by decide) (by kernel_rfl) (by kernel_rfl) (by kernel_rfl) (by kernel_rfl) (fun _ _ _ h => h) (fun a' hA => wanted_none rfl) (fun a' hA w' hw => by have e5 := hA.get 5 rfl; have ec : ∀ v, a'.eval (.const v) = v := fun _ => rfl; clear hA; generalize a'.eval = ρ at *; simp [go_sem, ec, e5]; try rfl) ?_
    clear hF
    intro hF
    refine take_fp 2 [3, 4, 5, 6, 7, 8, 9, 10, 11, 12, 13, 14, 15, 16, 17, 18, 19, 20, 21, 22, 23, 24, 25, 26, 27, 28, 29, 30, 31, 32, 33, 34, 35, 36, 37, 38, 39] (oi := { dst := some 99, op := Op.load 24 (Operand.tmp 98), type := 24, pos := "more.go:42", after := #[{ on := 1, ground := Ground.data }], guard := none }) (d := 99) (v := .slice kp1 kn1 kc1) hF hS rfl rfl (by decide) (by kernel_rfl) (by kernel_rfl) (by kernel_rfl) (by kernel_rfl) (fun _ _ _ h => h) (fun a' hA => wanted_none rfl) (fun a' hA w' hw => by have e98 := hA.get 98 rfl; have ec : ∀ v, a'.eval (.const v) = v := fun _ => rfl; have q0 := (hw.cell (p := ⟨p1, 5, none⟩) HL1.out).trans HQ15.out; clear hA; generalize a'.eval = ρ at *; simp [go_sem, ec, e98, q0]; try rfl) ?_
    clear hF
    intro hF
    refine take_fp 3 [4, 5, 6, 7, 8, 9, 10, 11, 12, 13, 14, 15, 16, 17, 18, 19, 20, 21, 22, 23, 24, 25, 26, 27, 28, 29, 30, 31, 32, 33, 34, 35, 36, 37, 38, 39] (oi := { dst := some 100, op := Op.call { callee := Callee.builtin Builtin.len, args := #[Operand.tmp 99], argTypes := #[24] }, type := 3, pos := "more.go:42", after := #[{ on := 2, ground := Ground.data }], guard := none }) (d := 100) (v := .int .i64 (kn1 : Int)) hF hS rfl rfl (by decide) (by kernel_rfl) (by kernel_rfl) (by kernel_rfl) (by kernel_rfl) (fun _ _ _ h => h) (fun a' hA => wanted_none rfl) (fun a' hA w' hw => by have e99 := hA.get 99 rfl; have ec : ∀ v, a'.eval (.const v) = v := fun _ => rfl; clear hA; generalize a'.eval = ρ at *; simp [go_sem, ec, e99]; try rfl) ?_
    clear hF
    intro hF
    refine take_fp 4 [5, 6, 7, 8, 9, 10, 11, 12, 13, 14, 15, 16, 17, 18, 19, 20, 21, 22, 23, 24, 25, 26, 27, 28, 29, 30, 31, 32, 33, 34, 35, 36, 37, 38, 39] (oi := { dst := some 101, op := Op.binOp BinOp.lss 3 (Operand.tmp 97) (Operand.tmp 100) 3, type := 4, pos := "more.go:42", after := #[{ on := 0, ground := Ground.data }, { on := 3, ground := Ground.data }], guard := none }) (d := 101) (v := .bool false) hF hS rfl rfl (by decide) (by kernel_rfl) (by kernel_rfl) (by kernel_rfl) (by kernel_rfl) (fun _ _ _ h => h) (fun a' hA => wanted_none rfl) (fun a' hA w' hw => by have e97 := hA.get 97 rfl; have e100 := hA.get 100 rfl; have ec : ∀ v, a'.eval (.const v) = v := fun _ => rfl; clear hA; generalize a'.eval = ρ at *; simp [go_sem, ec, e97, e100, hlt, hlti]; try rfl) ?_
    clear hF
    intro hF
    refine take_fp 5 [6, 7, 8, 9, 10, 11, 12, 13, 14, 15, 16, 17, 18, 19, 20, 21, 22, 23, 24, 25, 26, 27, 28, 29, 30, 31, 32, 33, 34, 35, 36, 37, 38, 39] (oi := { dst := some 102, op := Op.move (Operand.tmp 101), type := 4, pos := "more.go:42", after := #[{ on := 4, ground := Ground.data }], guard := none }) (d := 102) (v := .bool false) hF hS rfl rfl (by decide) (by kernel_rfl) (by kernel_rfl) (by kernel_rfl) (by kernel_rfl) (fun _ _ _ h => h) (fun a' hA => wanted_none rfl) (run_move_fs rfl rfl) ?_
    clear hF
    intro hF
    refine skip_fp 6 [12, 13, 14, 15, 16, 17, 18, 19, 20, 21, 22, 23, 24, 25, 26, 27, 28, 29, 30, 31, 32, 33, 34, 35, 36, 37, 38, 39] (oi := { dst := some 103, op := Op.load 26 (Operand.tmp 15), type := 26, pos := "more.go:42", after := #[{ on := 5, ground := Ground.guard }], guard := some (5, true) }) (d := 103) hF hS rfl rfl (by decide) (by kernel_rfl) (by kernel_rfl) (by kernel_rfl) (by kernel_rfl) (fun _ _ _ h => h) (fun a' hA => hA.unwanted (j := 5) (dj := 102) (b := true) (v := .bool false) rfl (by kernel_rfl) (by decide) rfl (by intro h; cases h)) ?_
    clear hF
    intro hF
    refine skip_fp 7 [8, 10, 11, 12, 13, 14, 15, 16, 17, 18, 19, 20, 21, 22, 23, 24, 25, 26, 27, 28, 29, 30, 31, 32, 33, 34, 35, 36, 37, 38, 39] (oi := { dst := some 104, op := Op.fieldAddr 26 (Operand.tmp 5) 5, type := 0, pos := "more.go:42", after := #[{ on := 5, ground := Ground.guard }], guard := some (5, true) }) (d := 104) hF hS rfl rfl (by decide) (by kernel_rfl) (by kernel_rfl) (by kernel_rfl) (by kernel_rfl) (fun _ _ _ h => h) (fun a' hA => hA.unwanted (j := 5) (dj := 102) (b := true) (v := .bool false) rfl (by kernel_rfl) (by decide) rfl (by intro h; cases h)) ?_
    clear hF
    intro hF
    refine skip_fp 8 [10, 11, 12, 13, 14, 15, 16, 17, 18, 19, 20, 21, 22, 23, 24, 25, 26, 27, 28, 29, 30, 31, 32, 33, 34, 35, 36, 37, 38, 39] (oi := { dst := some 105, op := Op.load 24 (Operand.tmp 104), type := 24, pos := "more.go:42", after := #[{ on := 7, ground := Ground.data }, { on := 5, ground := Ground.guard }], guard := some (5, true) }) (d := 105) hF hS rfl rfl (by decide) (by kernel_rfl) (by kernel_rfl) (by kernel_rfl) (by kernel_rfl) (fun _ _ _ h => h) (fun a' hA => hA.unwanted (j := 5) (dj := 102) (b := true) (v := .bool false) rfl (by kernel_rfl) (by decide) rfl (by intro h; cases h)) ?_
    clear hF
    intro hF
    refine skip_fp 9 [10, 11, 12, 13, 14, 15, 16, 17, 18, 19, 20, 21, 22, 23, 24, 25, 26, 27, 28, 29, 30, 31, 32, 33, 34, 35, 36, 37, 38, 39] (oi := { dst := some 106, op := Op.move (Operand.tmp 14), type := 3, pos := "more.go:42", after := #[{ on := 5, ground := Ground.guard }], guard := some (5, true) }) (d := 106) hF hS rfl rfl (by decide) (by kernel_rfl) (by kernel_rfl) (by kernel_rfl) (by kernel_rfl) (fun _ _ _ h => h) (fun a' hA => hA.unwanted (j := 5) (dj := 102) (b := true) (v := .bool false) rfl (by kernel_rfl) (by decide) rfl (by intro h; cases h)) ?_
    clear hF
    intro hF
    refine skip_fp 10 [11, 12, 13, 14, 15, 16, 17, 18, 19, 20, 21, 22, 23, 24, 25, 26, 27, 28, 29, 30, 31, 32, 33, 34, 35, 36, 37, 38, 39] (oi := { dst := some 107, op := Op.indexAddr 24 (Operand.tmp 105) (Operand.tmp 106), type := 0, pos := "more.go:42", after := #[{ on := 8, ground := Ground.data }, { on := 9, ground := Ground.data }, { on := 5, ground := Ground.guard }], guard := some (5, true) }) (d := 107) hF hS rfl rfl (by decide) (by kernel_rfl) (by kernel_rfl) (by kernel_rfl) (by kernel_rfl) (fun _ _ _ h => h) (fun a' hA => hA.unwanted (j := 5) (dj := 102) (b := true) (v := .bool false) rfl (by kernel_rfl) (by decide) rfl (by intro h; cases h)) ?_
    clear hF
    intro hF
    refine skip_fp 11 [12, 13, 14, 15, 16, 17, 18, 19, 20, 21, 22, 23, 24, 25, 26, 27, 28, 29, 30, 31, 32, 33, 34, 35, 36, 37, 38, 39] (oi := { dst := some 108, op := Op.load 26 (Operand.tmp 107), type := 26, pos := "more.go:42", after := #[{ on := 10, ground := Ground.data }, { on := 5, ground := Ground.guard }], guard := some (5, true) }) (d := 108) hF hS rfl rfl (by decide) (by kernel_rfl) (by kernel_rfl) (by kernel_rfl) (by kernel_rfl) (fun _ _ _ h => h) (fun a' hA => hA.unwanted (j := 5) (dj := 102) (b := true) (v := .bool false) rfl (by kernel_rfl) (by decide) rfl (by intro h; cases h)) ?_
    clear hF
    intro hF
    refine skip_fp 12 [13, 14, 15, 16, 17, 18, 19, 20, 21, 22, 23, 24, 25, 26, 27, 28, 29, 30, 31, 32, 33, 34, 35, 36, 37, 38, 39] (oi := { dst := some 109, op := Op.call { callee := Callee.value (Operand.func 10), args := #[Operand.tmp 103, Operand.tmp 108], argTypes := #[26, 26] }, type := 4, pos := "more.go:42", after := #[{ on := 6, ground := Ground.data }, { on := 11, ground := Ground.data }, { on := 5, ground := Ground.chain }, { on := 5, ground := Ground.guard }], guard := some (5, true) }) (d := 109) hF hS rfl rfl (by decide) (by kernel_rfl) (by kernel_rfl) (by kernel_rfl) (by kernel_rfl) (fun _ _ _ h => h) (fun a' hA => hA.unwanted (j := 5) (dj := 102) (b := true) (v := .bool false) rfl (by kernel_rfl) (by decide) rfl (by intro h; cases h)) ?_
    clear hF
    intro hF
    refine skip_fp 13 [14, 15, 16, 17, 18, 19, 20, 21, 22, 23, 24, 25, 26, 27, 28, 29, 30, 31, 32, 33, 34, 35, 36, 37, 38, 39] (oi := { dst := some 110, op := Op.unOp UnOp.not 4 (Operand.tmp 109), type := 4, pos := "more.go:42", after := #[{ on := 12, ground := Ground.data }, { on := 5, ground := Ground.guard }], guard := some (5, true) }) (d := 110) hF hS rfl rfl (by decide) (by kernel_rfl) (by kernel_rfl) (by kernel_rfl) (by kernel_rfl) (fun _ _ _ h => h) (fun a' hA => hA.unwanted (j := 5) (dj := 102) (b := true) (v := .bool false) rfl (by kernel_rfl) (by decide) rfl (by intro h; cases h)) ?_
    clear hF
    intro hF
    refine take_fp 14 [15, 16, 17, 18, 19, 20, 21, 22, 23, 24, 25, 26, 27, 28, 29, 30, 31, 32, 33, 34, 35, 36, 37, 38, 39] (oi := { dst := some 111, op := Op.pick (Operand.tmp 102) (Operand.tmp 110) (Operand.const (Value.bool false)), type := 4, pos := "more.go:42", after := #[{ on := 5, ground := Ground.data }, { on := 13, ground := Ground.data }], guard := none }) (d := 111) (v := .bool false) hF hS rfl rfl (by decide) (by kernel_rfl) (by kernel_rfl) (by kernel_rfl) (by kernel_rfl) (fun _ _ _ h => h) (fun a' hA => wanted_none rfl) (fun a' hA w' hw => by have e102 := hA.get 102 rfl; have e110 := hA.get 110 rfl; have ec : ∀ v, a'.eval (.const v) = v := fun _ => rfl; clear hA; generalize a'.eval = ρ at *; simp [go_sem, ec, e102, e110]; try rfl) ?_
    clear hF
    intro hF
    refine take_fp 15 [16, 17, 18, 19, 20, 21, 22, 23, 24, 25, 26, 27, 28, 29, 30, 31, 32, 33, 34, 35, 36, 37, 38, 39] (oi := { dst := some 112, op := Op.move (Operand.tmp 111), type := 4, pos := "more.go:42", after := #[{ on := 14, ground := Ground.data }, { on := 12, ground := Ground.chain }], guard := none }) (d := 112) (v := .bool false) hF hS rfl rfl (by decide) (by kernel_rfl) (by kernel_rfl) (by kernel_rfl) (by kernel_rfl) (fun _ _ _ h => h) (fun a' hA => wanted_none rfl) (run_move_fs rfl rfl) ?_
    clear hF
    intro hF
    refine take_fp 16 [20, 21, 22, 23, 24, 25, 26, 27, 28, 29, 30, 31, 32, 33, 34, 35, 36, 37, 38, 39] (oi := { dst := some 113, op := Op.move (Operand.tmp 14), type := 3, pos := "more.go:42", after := #[{ on := 15, ground := Ground.guard }], guard := some (15, false) }) (d := 113) (v := .int .i64 (i : Int)) hF hS rfl rfl (by decide) (by kernel_rfl) (by kernel_rfl) (by kernel_rfl) (by kernel_rfl) (fun _ _ _ h => h) (fun a' hA => hA.wantedB (j := 15) (dj := 112) (b := false) rfl (by kernel_rfl) (by decide) rfl) (run_move_fs rfl rfl) ?_
    clear hF
    intro hF
    refine take_fp 17 [18, 19, 20, 21, 22, 23, 24, 25, 26, 27, 28, 29, 30, 31, 32, 33, 34, 35, 36, 37, 38, 39] (oi := { dst := some 114, op := Op.fieldAddr 26 (Operand.tmp 5) 5, type := 0, pos := "more.go:42", after := #[{ on := 15, ground := Ground.guard }], guard := some (15, false) }) (d := 114) (v := .pointer (some ⟨p1, 5, none⟩)) hF hS rfl rfl (by decide) (by kernel_rfl) (by kernel_rfl) (by kernel_rfl) (by kernel_rfl) (fun _ _ _ h => h) (fun a' hA => hA.wantedB (j := 15) (dj := 112) (b := false) rfl (by kernel_rfl) (by decide) rfl) (fun a' hA w' hw => by have e5 := hA.get 5 rfl; have ec : ∀ v, a'.eval (.const v) = v := fun _ => rfl; clear hA; generalize a'.eval = ρ at *; simp [go_sem, ec, e5]; try rfl) ?_
    clear hF
    intro hF
    refine take_fp 18 [19, 20, 21, 22, 23, 24, 25, 26, 27, 28, 29, 30, 31, 32, 33, 34, 35, 36, 37, 38, 39] (oi := { dst := some 115, op := Op.load 24 (Operand.tmp 114), type := 24, pos := "more.go:42", after := #[{ on := 17, ground := Ground.data }, { on := 15, ground := Ground.guard }], guard := some (15, false) }) (d := 115) (v := .slice kp1 kn1 kc1) hF hS rfl rfl (by decide) (by kernel_rfl) (by kernel_rfl) (by kernel_rfl) (by kernel_rfl) (fun _ _ _ h => h) (fun a' hA => hA.wantedB (j := 15) (dj := 112) (b := false) rfl (by kernel_rfl) (by decide) rfl) (fun a' hA w' hw => by have e114 := hA.get 114 rfl; have ec : ∀ v, a'.eval (.const v) = v := fun _ => rfl; have q0 := (hw.cell (p := ⟨p1, 5, none⟩) HL1.out).trans HQ15.out; clear hA; generalize a'.eval = ρ at *; simp [go_sem, ec, e114, q0]; try rfl) ?_
    clear hF
    intro hF
    refine take_fp 19 [20, 21, 22, 23, 24, 25, 26, 27, 28, 29, 30, 31, 32, 33, 34, 35, 36, 37, 38, 39] (oi := { dst := some 116, op := Op.call { callee := Callee.builtin Builtin.len, args := #[Operand.tmp 115], argTypes := #[24] }, type := 3, pos := "more.go:42", after := #[{ on := 18, ground := Ground.data }, { on := 15, ground := Ground.guard }], guard := some (15, false) }) (d := 116) (v := .int .i64 (kn1 : Int)) hF hS rfl rfl (by decide) (by kernel_rfl) (by kernel_rfl) (by kernel_rfl) (by kernel_rfl) (fun _ _ _ h => h) (fun a' hA => hA.wantedB (j := 15) (dj := 112) (b := false) rfl (by kernel_rfl) (by decide) rfl) (fun a' hA w' hw => by have e115 := hA.get 115 rfl; have ec : ∀ v, a'.eval (.const v) = v := fun _ => rfl; clear hA; generalize a'.eval = ρ at *; simp [go_sem, ec, e115]; try rfl) ?_
    clear hF
    intro hF
    refine take_fp 20 [21, 22, 23, 24, 25, 26, 27, 28, 29, 30, 31, 32, 33, 34, 35, 36, 37, 38, 39] (oi := { dst := some 117, op := Op.binOp BinOp.geq 3 (Operand.tmp 113) (Operand.tmp 116) 3, type := 4, pos := "more.go:42", after := #[{ on := 16, ground := Ground.data }, { on := 19, ground := Ground.data }, { on := 15, ground := Ground.guard }], guard := some (15, false) }) (d := 117) (v := .bool true) hF hS rfl rfl (by decide) (by kernel_rfl) (by kernel_rfl) (by kernel_rfl) (by kernel_rfl) (fun _ _ _ h => h) (fun a' hA => hA.wantedB (j := 15) (dj := 112) (b := false) rfl (by kernel_rfl) (by decide) rfl) (fun a' hA w' hw => by have e113 := hA.get 113 rfl; have e116 := hA.get 116 rfl; have ec : ∀ v, a'.eval (.const v) = v := fun _ => rfl; clear hA; generalize a'.eval = ρ at *; simp [go_sem, ec, e113, e116, hle, hlei]; try rfl) ?_
    clear hF
    intro hF
    refine take_fp 21 [22, 23, 24, 25, 26, 27, 28, 29, 30, 31, 32, 33, 34, 35, 36, 37, 38, 39] (oi := { dst := some 118, op := Op.move (Operand.tmp 117), type := 4, pos := "more.go:42", after := #[{ on := 20, ground := Ground.data }, { on := 15, ground := Ground.chain }, { on := 15, ground := Ground.guard }], guard := some (15, false) }) (d := 118) (v := .bool true) hF hS rfl rfl (by decide) (by kernel_rfl) (by kernel_rfl) (by kernel_rfl) (by kernel_rfl) (fun _ _ _ h => h) (fun a' hA => hA.wantedB (j := 15) (dj := 112) (b := false) rfl (by kernel_rfl) (by decide) rfl) (run_move_fs rfl rfl) ?_
    clear hF
    intro hF
    refine take_fp 22 [36, 37, 38, 39] (oi := { dst := some 119, op := Op.load 26 (Operand.tmp 15), type := 26, pos := "more.go:42", after := #[{ on := 21, ground := Ground.guard }], guard := some (21, true) }) (d := 119) (v := .agg #[.int .i64 y.h.k, .int .i64 y.h.m, .int .i64 y.h.f, .int .i64 y.h.t, .slice y.h.np y.h.nn y.h.nc, .slice y.h.kp y.h.kn y.h.kc]) hF hS rfl rfl (by decide) (by kernel_rfl) (by kernel_rfl) (by kernel_rfl) (by kernel_rfl) (fun _ _ _ h => h) (fun a' hA => hA.wantedB (j := 21) (dj := 118) (b := true) rfl (by kernel_rfl) (by decide) rfl) (fun a' hA w' hw => by have e15 := hA.get 15 rfl; have ec : ∀ v, a'.eval (.const v) = v := fun _ => rfl; have q0 := (hw.cell (p := ⟨kb, 0, none⟩) HKL.out).trans (HKB.out 0 _ rfl); have q1 := (hw.cell (p := ⟨kb, 1, none⟩) HKL.out).trans (HKB.out 1 _ rfl); have q2 := (hw.cell (p := ⟨kb, 2, none⟩) HKL.out).trans (HKB.out 2 _ rfl); have q3 := (hw.cell (p := ⟨kb, 3, none⟩) HKL.out).trans (HKB.out 3 _ rfl); have q4 := (hw.cell (p := ⟨kb, 4, none⟩) HKL.out).trans (HKB.out 4 _ rfl); have q5 := (hw.cell (p := ⟨kb, 5, none⟩) HKL.out).trans (HKB.out 5 _ rfl); clear hA; generalize a'.eval = ρ at *; simp [go_sem, ec, e15, q0, q1, q2, q3, q4, q5]; try rfl) ?_
    clear hF
    intro hF
    refine take_fp 23 [24, 30, 31, 35, 36, 37, 38, 39] (oi := { dst := some 120, op := Op.fieldAddr 26 (Operand.tmp 8) 5, type := 0, pos := "more.go:42", after := #[{ on := 21, ground := Ground.guard }], guard := some (21, true) }) (d := 120) (v := .pointer (some ⟨p2, 5, none⟩)) hF hS rfl rfl (by decide) (by kernel_rfl) (by kernel_rfl) (by kernel_rfl) (by kernel_rfl) (fun _ _ _ h => h) (fun a' hA => hA.wantedB (j := 21) (dj := 118) (b := true) rfl (by kernel_rfl) (by decide) rfl) (fun a' hA w' hw => by have e8 := hA.get 8 rfl; have ec : ∀ v, a'.eval (.const v) = v := fun _ => rfl; clear hA; generalize a'.eval = ρ at *; simp [go_sem, ec, e8]; try rfl) ?_
    clear hF
    intro hF
    refine take_fp 24 [30, 31, 35, 36, 37, 38, 39] (oi := { dst := some 121, op := Op.load 24 (Operand.tmp 120), type := 24, pos := "more.go:42", after := #[{ on := 23, ground := Ground.data }, { on := 21, ground := Ground.guard }], guard := some (21, true) }) (d := 121) (v := .slice (some ⟨b2, o2, none⟩) kn2 kc2) hF hS rfl rfl (by decide) (by kernel_rfl) (by kernel_rfl) (by kernel_rfl) (by kernel_rfl) (fun _ _ _ h => h) (fun a' hA => hA.wantedB (j := 21) (dj := 118) (b := true) rfl (by kernel_rfl) (by decide) rfl) (fun a' hA w' hw => by have e120 := hA.get 120 rfl; have ec : ∀ v, a'.eval (.const v) = v := fun _ => rfl; have q0 := (hw.cell (p := ⟨p2, 5, none⟩) HL2.out).trans HQ25.out; clear hA; generalize a'.eval = ρ at *; simp [go_sem, ec, e120, q0]; try rfl) ?_
    clear hF
    intro hF
    refine take_fp 25 [29, 30, 31, 35, 36, 37, 38, 39] (oi := { dst := some 122, op := Op.move (Operand.tmp 14), type := 3, pos := "more.go:42", after := #[{ on := 21, ground := Ground.guard }], guard := some (21, true) }) (d := 122) (v := .int .i64 (i : Int)) hF hS rfl rfl (by decide) (by kernel_rfl) (by kernel_rfl) (by kernel_rfl) (by kernel_rfl) (fun _ _ _ h => h) (fun a' hA => hA.wantedB (j := 21) (dj := 118) (b := true) rfl (by kernel_rfl) (by decide) rfl) (run_move_fs rfl rfl) ?_
    clear hF
    intro hF
    refine take_fp 26 [27, 28, 29, 30, 31, 35, 36, 37, 38, 39] (oi := { dst := some 123, op := Op.fieldAddr 26 (Operand.tmp 5) 5, type := 0, pos := "more.go:42", after := #[{ on := 21, ground := Ground.guard }], guard := some (21, true) }) (d := 123) (v := .pointer (some ⟨p1, 5, none⟩)) hF hS rfl rfl (by decide) (by kernel_rfl) (by kernel_rfl) (by kernel_rfl) (by kernel_rfl) (fun _ _ _ h => h) (fun a' hA => hA.wantedB (j := 21) (dj := 118) (b := true) rfl (by kernel_rfl) (by decide) rfl) (fun a' hA w' hw => by have e5 := hA.get 5 rfl; have ec : ∀ v, a'.eval (.const v) = v := fun _ => rfl; clear hA; generalize a'.eval = ρ at *; simp [go_sem, ec, e5]; try rfl) ?_
    clear hF
    intro hF
    refine take_fp 27 [28, 29, 30, 31, 35, 36, 37, 38, 39] (oi := { dst := some 124, op := Op.load 24 (Operand.tmp 123), type := 24, pos := "more.go:42", after := #[{ on := 26, ground := Ground.data }, { on := 21, ground := Ground.guard }], guard := some (21, true) }) (d := 124) (v := .slice kp1 kn1 kc1) hF hS rfl rfl (by decide) (by kernel_rfl) (by kernel_rfl) (by kernel_rfl) (by kernel_rfl) (fun _ _ _ h => h) (fun a' hA => hA.wantedB (j := 21) (dj := 118) (b := true) rfl (by kernel_rfl) (by decide) rfl) (fun a' hA w' hw => by have e123 := hA.get 123 rfl; have ec : ∀ v, a'.eval (.const v) = v := fun _ => rfl; have q0 := (hw.cell (p := ⟨p1, 5, none⟩) HL1.out).trans HQ15.out; clear hA; generalize a'.eval = ρ at *; simp [go_sem, ec, e123, q0]; try rfl) ?_
    clear hF
    intro hF
    refine take_fp 28 [29, 30, 31, 35, 36, 37, 38, 39] (oi := { dst := some 125, op := Op.call { callee := Callee.builtin Builtin.len, args := #[Operand.tmp 124], argTypes := #[24] }, type := 3, pos := "more.go:42", after := #[{ on := 27, ground := Ground.data }, { on := 21, ground := Ground.guard }], guard := some (21, true) }) (d := 125) (v := .int .i64 (kn1 : Int)) hF hS rfl rfl (by decide) (by kernel_rfl) (by kernel_rfl) (by kernel_rfl) (by kernel_rfl) (fun _ _ _ h => h) (fun a' hA => hA.wantedB (j := 21) (dj := 118) (b := true) rfl (by kernel_rfl) (by decide) rfl) (fun a' hA w' hw => by have e124 := hA.get 124 rfl; have ec : ∀ v, a'.eval (.const v) = v := fun _ => rfl; clear hA; generalize a'.eval = ρ at *; simp [go_sem, ec, e124]; try rfl) ?_
    clear hF
    intro hF
    refine take_fp 29 [30, 31, 35, 36, 37, 38, 39] (oi := { dst := some 126, op := Op.binOp BinOp.sub 3 (Operand.tmp 122) (Operand.tmp 125) 3, type := 3, pos := "more.go:42", after := #[{ on := 25, ground := Ground.data }, { on := 28, ground := Ground.data }, { on := 21, ground := Ground.guard }], guard := some (21, true) }) (d := 126) (v := .int .i64 (i2 : Int)) hF hS rfl rfl (by decide) (by kernel_rfl) (by kernel_rfl) (by kernel_rfl) (by kernel_rfl) (fun _ _ _ h => h) (fun a' hA => hA.wantedB (j := 21) (dj := 118) (b := true) rfl (by kernel_rfl) (by decide) rfl) (fun a' hA w' hw => by have e122 := hA.get 122 rfl; have e125 := hA.get 125 rfl; have ec : ∀ v, a'.eval (.const v) = v := fun _ => rfl; clear hA; generalize a'.eval = ρ at *; simp [go_sem, ec, e122, e125, hi2, hi2w]; try rfl) ?_
    clear hF
    intro hF
    refine take_fp 30 [31, 35, 36, 37, 38, 39] (oi := { dst := some 127, op := Op.indexAddr 24 (Operand.tmp 121) (Operand.tmp 126), type := 0, pos := "more.go:42", after := #[{ on := 24, ground := Ground.data }, { on := 29, ground := Ground.data }, { on := 21, ground := Ground.guard }], guard := some (21, true) }) (d := 127) (v := .pointer (some ⟨b2, o2 + i2 * 6, none⟩)) hF hS rfl rfl (by decide) (by kernel_rfl) (by kernel_rfl) (by kernel_rfl) (by kernel_rfl) (fun _ _ _ h => h) (fun a' hA => hA.wantedB (j := 21) (dj := 118) (b := true) rfl (by kernel_rfl) (by decide) rfl) (fun a' hA w' hw => by have e121 := hA.get 121 rfl; have e126 := hA.get 126 rfl; have ec : ∀ v, a'.eval (.const v) = v := fun _ => rfl; clear hA; generalize a'.eval = ρ at *; simp [go_sem, ec, e121, e126, hx1, hx2]; try rfl) ?_
    clear hF
    intro hF
    refine take_fp 31 [35, 36, 37, 38, 39] (oi := { dst := some 128, op := Op.load 26 (Operand.tmp 127), type := 26, pos := "more.go:42", after := #[{ on := 30, ground := Ground.data }, { on := 21, ground := Ground.guard }], guard := some (21, true) }) (d := 128) (v := .agg #[.int .i64 x.h.k, .int .i64 x.h.m, .int .i64 x.h.f, .int .i64 x.h.t, .slice x.h.np x.h.nn x.h.nc, .slice x.h.kp x.h.kn x.h.kc]) hF hS rfl rfl (by decide) (by kernel_rfl) (by kernel_rfl) (by kernel_rfl) (by kernel_rfl) (fun _ _ _ h => h) (fun a' hA => hA.wantedB (j := 21) (dj := 118) (b := true) rfl (by kernel_rfl) (by decide) rfl) (fun a' hA w' hw => by have e127 := hA.get 127 rfl; have ec : ∀ v, a'.eval (.const v) = v := fun _ => rfl; obtain ⟨q0, q1, q2, q3, q4, q5⟩ := HXC.out _ hw; clear hA; generalize a'.eval = ρ at *; simp [go_sem, ec, e127, q0, q1, q2, q3, q4, q5]; try rfl) ?_
    clear hF
    intro hF
    refine take_fp 32 [33, 34, 35, 36, 37, 38, 39] (oi := { dst := some 129, op := Op.fieldAddr 26 (Operand.tmp 5) 3, type := 0, pos := "more.go:42", after := #[{ on := 21, ground := Ground.guard }], guard := some (21, true) }) (d := 129) (v := .pointer (some ⟨p1, 3, none⟩)) hF hS rfl rfl (by decide) (by kernel_rfl) (by kernel_rfl) (by kernel_rfl) (by kernel_rfl) (fun _ _ _ h => h) (fun a' hA => hA.wantedB (j := 21) (dj := 118) (b := true) rfl (by kernel_rfl) (by decide) rfl) (fun a' hA w' hw => by have e5 := hA.get 5 rfl; have ec : ∀ v, a'.eval (.const v) = v := fun _ => rfl; clear hA; generalize a'.eval = ρ at *; simp [go_sem, ec, e5]; try rfl) ?_
    clear hF
    intro hF
    refine take_fp 33 [34, 35, 36, 37, 38, 39] (oi := { dst := some 130, op := Op.load 3 (Operand.tmp 129), type := 3, pos := "more.go:42", after := #[{ on := 32, ground := Ground.data }, { on := 21, ground := Ground.guard }], guard := some (21, true) }) (d := 130) (v := .int .i64 t1) hF hS rfl rfl (by decide) (by kernel_rfl) (by kernel_rfl) (by kernel_rfl) (by kernel_rfl) (fun _ _ _ h => h) (fun a' hA => hA.wantedB (j := 21) (dj := 118) (b := true) rfl (by kernel_rfl) (by decide) rfl) (fun a' hA w' hw => by have e129 := hA.get 129 rfl; have ec : ∀ v, a'.eval (.const v) = v := fun _ => rfl; have q0 := (hw.cell (p := ⟨p1, 3, none⟩) HL1.out).trans HQ13.out; clear hA; generalize a'.eval = ρ at *; simp [go_sem, ec, e129, q0]; try rfl) ?_
    clear hF
    intro hF
    refine take_fp 34 [35, 36, 37, 38, 39] (oi := { dst := some 131, op := Op.binOp BinOp.add 3 (Operand.tmp 130) (Operand.const (Value.int IntKind.i64 1)) 3, type := 3, pos := "more.go:42", after := #[{ on := 33, ground := Ground.data }, { on := 21, ground := Ground.guard }], guard := some (21, true) }) (d := 131) (v := .int .i64 (cc : Int)) hF hS rfl rfl (by decide) (by kernel_rfl) (by kernel_rfl) (by kernel_rfl) (by kernel_rfl) (fun _ _ _ h => h) (fun a' hA => hA.wantedB (j := 21) (dj := 118) (b := true) rfl (by kernel_rfl) (by decide) rfl) (fun a' hA w' hw => by have e130 := hA.get 130 rfl; have ec : ∀ v, a'.eval (.const v) = v := fun _ => rfl; clear hA; generalize a'.eval = ρ at *; simp [go_sem, ec, e130, hc1, hc1w]; try rfl) ?_
    clear hF
    intro hF
    refine call_fp 35 (oi := { dst := some 132, op := Op.call { callee := Callee.value (Operand.func 19), args := #[Operand.tmp 128, Operand.tmp 131], argTypes := #[26, 3] }, type := 26, pos := "more.go:42", after := #[{ on := 31, ground := Ground.data }, { on := 34, ground := Ground.data }, { on := 21, ground := Ground.chain }, { on := 21, ground := Ground.guard }], guard := some (21, true) }) (d := 132) (R := fun e w' => ∃ z : Br, e = .returned z.h.val ∧ z.Lies w' ∧ z.pb = x.pb.on cc ∧ Below W1.heap.size W1 w') hF rfl rfl (by decide) (by kernel_rfl) (fun a' hA => hA.wantedB (j := 21) (dj := 118) (b := true) rfl (by kernel_rfl) (by decide) rfl) (fun a' hA => by have e128 := hA.get 128 rfl; have e131 := hA.get 131 rfl; have ef : ∀ f, a'.eval (.func f) = .func (.func f) #[] #[] := fun _ => rfl; have ec : ∀ v, a'.eval (.const v) = v := fun _ => rfl; clear hA; generalize a'.eval = ρ at *; simp [go_sem, ef, ec, e128, e131]) ((HMV.out _ hS).mono (by rintro e w' ⟨v, rfl, ⟨z, hz1, hz2, hz3, hz4⟩, hb⟩; exact ⟨z, by rw [hz1], hz2, hz4, hS.trans (hb.mono hS.size)⟩)) (by rintro w' ⟨z, h, _⟩; cases h) (by rintro ch w' ⟨z, h, _⟩; cases h) ?_
    rintro v35 w35x ⟨z, h, hzl, hzp, hb⟩
    have h := Ending.returned.inj h
    subst h
    refine ⟨fun _ => hb, ?_⟩
    clear hS
    have hS : (fun W : World => Below W1.heap.size W1 W) w35x := hb
    clear hb hF
    intro hF
    refine call_fp 36 (oi := { dst := some 133, op := Op.call { callee := Callee.value (Operand.func 10), args := #[Operand.tmp 119, Operand.tmp 132], argTypes := #[26, 26] }, type := 4, pos := "more.go:42", after := #[{ on := 22, ground := Ground.data }, { on := 35, ground := Ground.data }, { on := 35, ground := Ground.chain }, { on := 21, ground := Ground.guard }], guard := some (21, true) }) (d := 133) (R := fun e w' => e = .returned (.bool true) ∧ Below W1.heap.size W1 w') hF rfl rfl (by decide) (by kernel_rfl) (fun a' hA => hA.wantedB (j := 21) (dj := 118) (b := true) rfl (by kernel_rfl) (by decide) rfl) (fun a' hA => by have e119 := hA.get 119 rfl; have e132 := hA.get 132 rfl; have ef : ∀ f, a'.eval (.func f) = .func (.func f) #[] #[] := fun _ => rfl; have ec : ∀ v, a'.eval (.const v) = v := fun _ => rfl; clear hA; generalize a'.eval = ρ at *; simp [go_sem, ef, ec, e119, e132]) ((HX.out _ hS z hzl hzp).mono (by rintro e w' ⟨rfl, hb⟩; exact ⟨rfl, hS.trans (hb.mono hS.size)⟩)) (by rintro w' ⟨h, _⟩; cases h) (by rintro ch w' ⟨h, _⟩; cases h) ?_
    rintro v36 w36x ⟨h, hb⟩
    have h := Ending.returned.inj h
    subst h
    refine ⟨fun _ => hb, ?_⟩
    clear hS
    have hS : (fun W : World => Below W1.heap.size W1 W) w36x := hb
    clear hb hF
    intro hF
    refine take_fp 37 [38, 39] (oi := { dst := some 134, op := Op.unOp UnOp.not 4 (Operand.tmp 133), type := 4, pos := "more.go:42", after := #[{ on := 36, ground := Ground.data }, { on := 21, ground := Ground.guard }], guard := some (21, true) }) (d := 134) (v := .bool false) hF hS rfl rfl (by decide) (by kernel_rfl) (by kernel_rfl) (by kernel_rfl) (by kernel_rfl) (fun _ _ _ h => h) (fun a' hA => hA.wantedB (j := 21) (dj := 118) (b := true) rfl (by kernel_rfl) (by decide) rfl) (fun a' hA w' hw => by have e133 := hA.get 133 rfl; have ec : ∀ v, a'.eval (.const v) = v := fun _ => rfl; clear hA; generalize a'.eval = ρ at *; simp [go_sem, ec, e133]; try rfl) ?_
    clear hF
    intro hF
    refine take_fp 38 [39] (oi := { dst := some 135, op := Op.pick (Operand.tmp 118) (Operand.tmp 134) (Operand.const (Value.bool false)), type := 4, pos := "more.go:42", after := #[{ on := 21, ground := Ground.data }, { on := 37, ground := Ground.data }, { on := 15, ground := Ground.guard }], guard := some (15, false) }) (d := 135) (v := .bool false) hF hS rfl rfl (by decide) (by kernel_rfl) (by kernel_rfl) (by kernel_rfl) (by kernel_rfl) (fun _ _ _ h => h) (fun a' hA => hA.wantedB (j := 15) (dj := 112) (b := false) rfl (by kernel_rfl) (by decide) rfl) (fun a' hA w' hw => by have e118 := hA.get 118 rfl; have e134 := hA.get 134 rfl; have ec : ∀ v, a'.eval (.const v) = v := fun _ => rfl; clear hA; generalize a'.eval = ρ at *; simp [go_sem, ec, e118, e134]; try rfl) ?_
    clear hF
    intro hF
    refine one_fp 39 (oi := { dst := some 136, op := Op.pick (Operand.tmp 112) (Operand.const (Value.bool true)) (Operand.tmp 135), type := 4, pos := "more.go:42", after := #[{ on := 15, ground := Ground.data }, { on := 38, ground := Ground.data }], guard := none }) (d := 136) (v := .bool false) hF rfl rfl (by decide) (by kernel_rfl) (by kernel_rfl) (fun a' hA => wanted_none rfl) (fun a' hA => by have e112 := hA.get 112 rfl; have e135 := hA.get 135 rfl; have ec : ∀ v, a'.eval (.const v) = v := fun _ => rfl; clear hA; generalize a'.eval = ρ at *; simp [go_sem, ec, e112, e135]; try rfl) ?_
    clear hF
    intro hF
    refine wpTill_done (by kernel_rfl) ?_ _
    subst ha0
    simp only [Act.put, List.setIfInBounds_toArray, List.set_cons_zero, List.set_cons_succ]
    have HBW := Lib.hid (HBE.out.trans (hS.mono HBE.out.size))
    clear hF hS hi2 hi2w hc1 hc1w
    go_wp2_with fail
    go_roundw
    case rel => exact ⟨i + 1, by omega, by go_num, HBW.out⟩
    case measure => simp [intOf]; omega
  ·have HLZ := Lib.hid (alive_any wr (HK3.out.step hbe))
   have HBZ := Lib.hid (HB3.out.trans (hbe.mono HB3.out.size))
   clear hbe
   go_wp2_with (go_at_call 7; refine HLZ.out.mono ?_; rintro e w6 ⟨rfl, hb6⟩; have HB6 := Lib.hid (HBZ.out.trans (hb6.mono HBZ.out.size)); clear hb6)
   go_ret
   exact ⟨by first | rfl | trivial, HB6.out⟩
end Go.Proofs.YtifoodfbgghplaaGreatDoor

namespace Go.Proofs.YtifoodfbgghplaaGreatDoor
open Go.RowKit
set_option linter.unusedVariables false

theorem parseJoins_walk {p q : Prop} (s t : ByteArray) (W : World) (hp : p) (hq : q) (hkw : Kw W) : Calls Tryz.prog 6 #[.string s, .string t] W fun e w' => e = .returned (.bool true) ∧ Below W.heap.size W w' := by
 rcases Nat.lt_or_ge 1500 s.size with h | h
 ·exact joins_long s t W hkw (.inl h)
 ·rcases Nat.lt_or_ge 1500 t.size with h2 | h2
  ·exact joins_long s t W hkw (.inr ⟨h, h2⟩)
  ·exact joins_any s t W hkw h h2
end Go.Proofs.YtifoodfbgghplaaGreatDoor
