/-
  A text's tokens follow one another: plain facts.; A token's own text is one token, of its kind: plain facts.; The plain parser's branches are right, and each name in a text is one branch's, once.; How large the plain parser's branches are: a branch, all its parts and all their names are fewer than three for each token.; Are two branches the same: the document's way.; A chain's branches are right, and lie within.; The document's rows of a branch, and whether it is right, where it is.
-/
import Derived.Test.YtkjgkchdkeggoaaGreatDoorFirst
import Derived.Test.YtkjgkchdkeggoaaGreatDoorKeep
namespace Go.Proofs.YtkjgkchdkeggoaaGreatDoor
open Go.RowKit
set_option maxRecDepth 20000
set_option linter.unusedVariables false
set_option linter.unusedSimpArgs false

/-- Tokens from the place a on, each where the one ahead ends, up to the end at n. -/
def Chain (n : Nat) : Nat → List Tok → Prop
 | _, [] => False
 | a, t :: r => (r = [] ∧ t = ⟨0, n, n⟩ ∧ a = n) ∨ (t.k ≠ 0 ∧ t.a = a ∧ a < t.e ∧ t.e ≤ n ∧ Chain n t.e r)
theorem restT_chain (s : ByteArray) (a : Nat) (ha : a ≤ s.size) : Chain s.size a (restT s a) := by
 obtain ⟨m, hm⟩ : ∃ m, m = s.size - a := ⟨_, rfl⟩
 induction m using Nat.strongRecOn generalizing a with
 | _ m ih =>
  by_cases h : a < s.size
  ·have hb := tokAt_bound s a h
   rw [restT_at s a h]
   refine .inr ⟨?_, ?_, hb.1, hb.2, ih (s.size - (tokAt s a).e) (by omega) _ hb.2 rfl⟩
   ·rw [tokAt_in s a h]; exact tokN_kind _ (by rw [drop_at s a h]; simp)
   ·rw [tokAt_in s a h]
  ·have : a = s.size := by omega
   subst this
   rw [restT_end, tokAt_end]
   exact .inl ⟨rfl, rfl, rfl⟩
/-- Where token i begins; n behind the last. -/
def posT (n : Nat) (l : List Tok) (i : Nat) : Nat := match l[i]? with
 | some t => t.a
 | none => n
theorem Chain.length {n a : Nat} {l : List Tok} (h : Chain n a l) : 0 < l.length ∧ l.length ≤ n - a + 1 ∧ a ≤ n := by
 induction l generalizing a with
 | nil => exact h.elim
 | cons t r ih =>
  rcases h with ⟨h1, _, h2⟩ | ⟨_, _, h3, h4, h5⟩
  ·subst h1; simp; omega
  ·have := ih h5; simp; omega
theorem Chain.pos0 {n a : Nat} {l : List Tok} (h : Chain n a l) : posT n l 0 = a := by
 cases l with
 | nil => exact h.elim
 | cons t r =>
  rcases h with ⟨_, h1, h2⟩ | ⟨_, h1, _⟩
  ·subst h1; simp [posT, h2]
  ·simpa [posT] using h1
theorem posT_end (n : Nat) (l : List Tok) : posT n l l.length = n := by simp [posT]
theorem posT_in (n : Nat) (l : List Tok) (i : Nat) (h : i < l.length) : posT n l i = l[i].a := by simp [posT, h]
theorem posT_cons (n : Nat) (t : Tok) (r : List Tok) (i : Nat) : posT n (t :: r) (i + 1) = posT n r i := by simp [posT]
theorem Chain.at {n a : Nat} {l : List Tok} (h : Chain n a l) (i : Nat) (hi : i < l.length) :
  l[i].a = posT n l i ∧ l[i].e = posT n l (i + 1) ∧ l[i].e ≤ n ∧ ((i + 1 = l.length ∧ l[i].k = 0 ∧ l[i].e = l[i].a) ∨ (i + 1 < l.length ∧ l[i].k ≠ 0 ∧ l[i].a < l[i].e)) := by
 refine ⟨(posT_in n l i hi).symm, ?_⟩
 induction l generalizing a i with
 | nil => exact h.elim
 | cons t r ih =>
  rcases h with ⟨h1, h2, h3⟩ | ⟨h1, h2, h3, h4, h5⟩
  ·subst h1
   have : i = 0 := by simp at hi; omega
   subst this
   subst h2
   simp [posT]
  ·cases i with
   | zero =>
    have hl := h5.length
    simp only [posT_cons, h5.pos0, List.getElem_cons_zero, List.length_cons]
    exact ⟨by first | trivial | rfl, h4, .inr ⟨by omega, h1, by omega⟩⟩
   | succ i =>
    have := ih h5 i (by simpa using hi)
    simp only [posT_cons, List.getElem_cons_succ, List.length_cons]
    refine ⟨this.1, this.2.1, ?_⟩
    rcases this.2.2 with ⟨e, f⟩ | ⟨e, f⟩
    ·exact .inl ⟨by omega, f⟩
    ·exact .inr ⟨by omega, f⟩
theorem scan_chain (s : ByteArray) : Chain s.size 0 (scanT s) := restT_chain s 0 (by omega)
end Go.Proofs.YtkjgkchdkeggoaaGreatDoor

namespace Go.Proofs.YtkjgkchdkeggoaaGreatDoor
open Go.RowKit
set_option maxRecDepth 20000
set_option linter.unusedVariables false
set_option linter.unusedSimpArgs false

theorem passN_take {σ : Type} (f : σ → UInt8 → σ × Bool) (q : σ) (l : List UInt8) (m : Nat) : passN f q (l.take m) = min m (passN f q l) := by
 induction l generalizing q m with
 | nil => simp [passN]
 | cons c r ih =>
  cases m with
  | zero => simp [passN]
  | succ m =>
   simp only [List.take_succ_cons, passN]
   cases (f q c).2
   ·simp
   ·simp only [cond_true, ih]; omega
theorem headB_take {l : List UInt8} {j : Nat} {x : Int} (h : headB l x = false) : headB (l.take j) x = false := by
 cases l with
 | nil => simp [headB]
 | cons c r => cases j with
  | zero => rfl
  | succ j => exact h
theorem headB_take_pos (l : List UInt8) (j : Nat) (x : Int) (h : 0 < j) : headB (l.take j) x = headB l x := by
 cases l with
 | nil => simp [headB]
 | cons c r => cases j with
  | zero => omega
  | succ j => rfl
theorem drop_take_self (l : List UInt8) (n q : Nat) : (l.take (n + q)).drop n = (l.drop n).take q := by
 rw [List.drop_take]; congr 1; omega
theorem quote_again (r : List UInt8) : quoteN (r.take ((quoteN r).2 - 1)) = quoteN r := by
 have hle := passN_le qF false r
 unfold quoteN
 simp only
 cases h : headB (r.drop (passN qF false r)) 34
 ·simp only [cond_false]
  have hm : passN qF false r + 1 + passN (pureF lineB) () (r.drop (passN qF false r)) - 1 = passN qF false r + passN (pureF lineB) () (r.drop (passN qF false r)) := by omega
  rw [hm, passN_take, Nat.min_eq_right (by omega), drop_take_self, headB_take h, passN_take, Nat.min_self]
  rfl
 ·simp only [cond_true]
  have hm : passN qF false r + 2 - 1 = passN qF false r + 1 := by omega
  rw [hm, passN_take, Nat.min_eq_right (by omega), drop_take_self, headB_take_pos _ _ _ (by omega), h]
  rfl
theorem note_again (l : List UInt8) (h : 0 < l.length) : noteN (l.take (noteN l).2) = noteN l := by
 have hle := passN_le nF (0, 0) l
 unfold noteN
 simp only
 cases e : (passN nF (0, 0) l == l.length)
 ·simp only [cond_false]
  have hne : ¬ passN nF (0, 0) l = l.length := by simpa using e
  rw [passN_take, Nat.min_eq_right (by omega), List.length_take, Nat.min_eq_left (by omega)]
  have : (passN nF (0, 0) l == passN nF (0, 0) l + 1) = false := by simp
  rw [this]
  rfl
 ·simp only [cond_true]
  have hq : passN nF (0, 0) l = l.length := by simpa using e
  rw [hq, List.take_length, hq]
  simp
theorem note_two (r : List UInt8) : 2 ≤ passN nF (0, 0) (40 :: 42 :: r) := by
 have h1 : nF (0, 0) 40 = ((0, 40), true) := by decide
 have h2 : nF (0, 40) 42 = ((1, 0), true) := by decide
 simp only [passN, h1, h2, cond_true]
 omega
theorem eqB_eq {c : UInt8} {n : UInt8} (h : eqB c (n.toNat : Int) = true) : c = n := by
 unfold eqB at h
 rw [u8_eq]
 simpa using h
/-- The token of a token's own bytes. -/
theorem tok_again (l : List UInt8) (h : l ≠ []) : tokN (l.take (tokN l).2) = tokN l := by
 cases l with
 | nil => exact absurd rfl h
 | cons c r =>
  have hb := tokN_bound (c :: r) (by simp)
  obtain ⟨m, hm⟩ : ∃ m, (tokN (c :: r)).2 = m + 1 := ⟨(tokN (c :: r)).2 - 1, by omega⟩
  have key : tokN ((c :: r).take (m + 1)) = bif blankB c then (1, passN (pureF blankB) () ((c :: r).take (m + 1)))
    else bif eqB c 34 then quoteN (r.take m)
    else bif eqB c 40 && headB (r.take m) 42 then noteN ((c :: r).take (m + 1))
    else bif restB c then (plainN (((c :: r).take (m + 1)).take (passN (pureF restB) () ((c :: r).take (m + 1)))), passN (pureF restB) () ((c :: r).take (m + 1)))
    else bif signB c then (plainN (((c :: r).take (m + 1)).take (passN (pureF signB) () ((c :: r).take (m + 1)))), passN (pureF signB) () ((c :: r).take (m + 1)))
    else (plainN (((c :: r).take (m + 1)).take 1), 1) := rfl
  have own : tokN (c :: r) = bif blankB c then (1, passN (pureF blankB) () (c :: r))
    else bif eqB c 34 then quoteN r
    else bif eqB c 40 && headB r 42 then noteN (c :: r)
    else bif restB c then (plainN ((c :: r).take (passN (pureF restB) () (c :: r))), passN (pureF restB) () (c :: r))
    else bif signB c then (plainN ((c :: r).take (passN (pureF signB) () (c :: r))), passN (pureF signB) () (c :: r))
    else (plainN ((c :: r).take 1), 1) := rfl
  rw [hm, key]
  rw [own] at hm ⊢
  clear key own hb h
  cases h1 : blankB c
  ·cases h2 : eqB c 34
   ·cases h3 : (eqB c 40 && headB r 42)
    ·have h3' : (eqB c 40 && headB (r.take m) 42) = false := by
      cases h4 : eqB c 40
      ·rfl
      ·rw [h4, Bool.true_and] at h3; rw [headB_take h3]; rfl
     cases h4 : restB c
     ·cases h5 : signB c
      ·simp only [h1, h2, h3, h4, h5, cond_false] at hm
       have : m = 0 := by omega
       subst this
       simp only [h3', cond_false]
       rfl
      ·simp only [h1, h2, h3, h4, h5, cond_false, cond_true] at hm
       simp only [h3', cond_false, cond_true]
       rw [passN_take, hm, Nat.min_self, List.take_take, Nat.min_self]
     ·simp only [h1, h2, h3, h4, cond_false, cond_true] at hm
      simp only [h3', cond_false, cond_true]
      rw [passN_take, hm, Nat.min_self, List.take_take, Nat.min_self]
    ·simp only [h1, h2, h3, cond_false, cond_true] at hm
     rw [Bool.and_eq_true] at h3
     have hc : c = 40 := eqB_eq (n := 40) h3.1
     cases r with
     | nil => exact absurd h3.2 (by simp [headB])
     | cons d t =>
      have hd : d = 42 := eqB_eq (n := 42) h3.2
      subst hc hd
      have h2 := note_two t
      have hm1 : 1 ≤ m := by
       unfold noteN at hm
       simp only at hm
       cases e : (passN nF (0, 0) (40 :: 42 :: t) == (40 :: 42 :: t).length) <;> rw [e] at hm <;> simp at hm <;> omega
      rw [headB_take_pos _ _ _ hm1, h3.1, h3.2]
      simp only [Bool.and_self, cond_true, cond_false]
      have := note_again (40 :: 42 :: t) (by simp)
      rw [hm] at this
      exact this
   ·simp only [h1, h2, cond_false, cond_true] at hm
    simp only [cond_false, cond_true]
    have := quote_again r
    rw [hm] at this
    exact this
  ·simp only [h1, cond_true] at hm
   simp only [cond_true]
   rw [passN_take, hm, Nat.min_self]
theorem scan_again (s : ByteArray) (a : Nat) (h : a < s.size) : scanT (s.extract (tokAt s a).a (tokAt s a).e) = [⟨(tokAt s a).k, 0, (tokAt s a).e - (tokAt s a).a⟩, ⟨0, (tokAt s a).e - (tokAt s a).a, (tokAt s a).e - (tokAt s a).a⟩] := by
 have hbo := tokAt_bound s a h
 have hne : s.data.toList.drop a ≠ [] := by rw [drop_at s a h]; simp
 have hta := tok_again (s.data.toList.drop a) hne
 rw [tokAt_in s a h] at hbo ⊢
 simp only at hbo ⊢
 generalize hT : tokN (s.data.toList.drop a) = T at *
 obtain ⟨k, n⟩ := T
 simp only at *
 rw [show a + n - a = n from by omega]
 have hd : (s.extract a (a + n)).data.toList = (s.data.toList.drop a).take n := extract_drop s a n
 have hsz : (s.extract a (a + n)).size = n := by simp; omega
 generalize s.extract a (a + n) = p at *
 have hp : 0 < p.size := by omega
 have e0 : tokAt p 0 = ⟨k, 0, n⟩ := by
  rw [tokAt_in p 0 hp, List.drop_zero, hd, hta, Nat.zero_add]
 unfold scanT
 rw [restT_at p 0 hp, e0]
 simp only
 rw [← hsz, restT_end, tokAt_end]
theorem restT_mem (s : ByteArray) (a : Nat) (ha : a ≤ s.size) : ∀ t ∈ restT s a, t.a ≤ s.size ∧ t = tokAt s t.a := by
 obtain ⟨m, hm⟩ : ∃ m, m = s.size - a := ⟨_, rfl⟩
 induction m using Nat.strongRecOn generalizing a with
 | _ m ih =>
  intro t ht
  by_cases h : a < s.size
  ·have hb := tokAt_bound s a h
   rw [restT_at s a h] at ht
   rcases List.mem_cons.1 ht with rfl | ht
   ·rw [show (tokAt s a).a = a by rw [tokAt_in s a h]]
    exact ⟨ha, rfl⟩
   ·exact ih (s.size - (tokAt s a).e) (by omega) _ hb.2 rfl t ht
  ·have : a = s.size := by omega
   subst this
   rw [restT_end] at ht
   have : t = tokAt s s.size := by simpa using ht
   subst this
   rw [tokAt_end]
   exact ⟨Nat.le_refl _, (tokAt_end s).symm⟩
theorem again_at (s : ByteArray) (t : Tok) (ht : t ∈ scanT s) (hk : t.k ≠ 0) : t.a < t.e ∧ t.e ≤ s.size ∧ scanT (s.extract t.a t.e) = [⟨t.k, 0, t.e - t.a⟩, ⟨0, t.e - t.a, t.e - t.a⟩] := by
 obtain ⟨h1, h2⟩ := restT_mem s 0 (by omega) t ht
 have hlt : t.a < s.size := by
  apply Decidable.byContradiction
  intro hn
  have : t.a = s.size := by omega
  rw [this, tokAt_end] at h2
  rw [h2] at hk
  exact hk rfl
 have hb := tokAt_bound s t.a hlt
 have := scan_again s t.a hlt
 rw [← h2] at this hb
 exact ⟨hb.1, hb.2, this⟩
end Go.Proofs.YtkjgkchdkeggoaaGreatDoor

namespace Go.Proofs.YtkjgkchdkeggoaaGreatDoor
open Go.RowKit
set_option maxRecDepth 20000
set_option linter.unusedVariables false
set_option linter.unusedSimpArgs false

def Pb.fr : Pb → Int | .mk _ _ f _ _ _ => f
def Pb.to : Pb → Int | .mk _ _ _ t _ _ => t
mutual
/-- How often a branch has a name. -/
def Pb.cnt (x : Int) : Pb → Nat
 | .mk _ _ _ _ ns ks => ns.count x + cntL x ks
def cntL (x : Int) : List Pb → Nat
 | [] => 0
 | b :: r => b.cnt x + cntL x r
end
mutual
/-- A branch is right, and all of its parts have kinds. -/
def Pb.Rt : Pb → Prop
 | .mk k _ f t ns ks => 0 < k ∧ 0 ≤ f ∧ f ≤ t ∧ (∀ n ∈ ns, f ≤ n ∧ n < t) ∧ ChainP f t ks
def ChainP (f t : Int) : List Pb → Prop
 | [] => f ≤ t
 | b :: r => b.Rt ∧ f ≤ b.fr ∧ ChainP b.to t r
end
theorem cntL_append (x : Int) (a b : List Pb) : cntL x (a ++ b) = cntL x a + cntL x b := by
 induction a with
 | nil => simp [cntL]
 | cons y r ih => simp [cntL, ih]; omega
theorem Pb.Rt.le {b : Pb} (h : b.Rt) : 0 ≤ b.fr ∧ b.fr ≤ b.to := by
 cases b; simp only [Pb.Rt] at h; exact ⟨h.2.1, h.2.2.1⟩
theorem ChainP.le {f t : Int} : ∀ {l : List Pb}, ChainP f t l → f ≤ t := by
 intro l
 induction l generalizing f with
 | nil => intro h; exact h
 | cons b r ih => intro h; simp only [ChainP] at h; have := ih h.2.2; have := h.1.le; omega
theorem ChainP.low {f f' t : Int} (hf : f' ≤ f) : ∀ {l : List Pb}, ChainP f t l → ChainP f' t l := by
 intro l h
 cases l with
 | nil => simp only [ChainP] at h ⊢; omega
 | cons b r => simp only [ChainP] at h ⊢; exact ⟨h.1, by omega, h.2.2⟩
theorem ChainP.cat {m t : Int} : ∀ {f : Int} {l r : List Pb}, ChainP f m l → ChainP m t r → ChainP f t (l ++ r) := by
 intro f l
 induction l generalizing f with
 | nil => intro r h1 h2; simp only [ChainP] at h1; exact h2.low h1
 | cons b l ih => intro r h1 h2; simp only [ChainP, List.cons_append] at h1 ⊢; exact ⟨h1.1, h1.2.1, ih h1.2.2 h2⟩
theorem ChainP.up {f t t' : Int} {l : List Pb} (h : ChainP f t l) (ht : t ≤ t') : ChainP f t' l := by
 have := ChainP.cat (r := []) h (by simpa only [ChainP] using ht)
 simpa using this

/-- Is token n a name? -/
def Src.nm (S : Src) (n : Nat) : Bool := S.kd n == 6 || S.kd n == 7 || S.kd n == 9
/-- From n on up to m each name is counted, once; a * may be left out. -/
structure Cov (S : Src) (n m : Nat) (c : Int → Nat) : Prop where
 le : n ≤ m
 one : ∀ x, c x ≤ 1
 inn : ∀ x, 0 < c x → (n : Int) ≤ x ∧ x < (m : Int)
 nm : ∀ x : Nat, 0 < c (x : Int) → S.nm x = true
 all : ∀ x : Nat, n ≤ x → x < m → S.nm x = true → S.is x [42] = false → 0 < c (x : Int)
abbrev Skip (S : Src) (n m : Nat) : Prop := Cov S n m fun _ => 0
section
variable {S : Src}
theorem Cov.ext {n m : Nat} {c d : Int → Nat} (h : Cov S n m c) (e : ∀ x, d x = c x) : Cov S n m d := by
 have : d = c := funext e
 subst this; exact h
theorem Cov.add {n m k : Nat} {c d : Int → Nat} (h : Cov S n m c) (g : Cov S m k d) : Cov S n k fun x => c x + d x where
 le := Nat.le_trans h.le g.le
 one x := by
  rcases Nat.eq_zero_or_pos (c x) with hc | hc
  ·have := g.one x; omega
  ·rcases Nat.eq_zero_or_pos (d x) with hd | hd
   ·have := h.one x; omega
   ·have := h.inn x hc; have := g.inn x hd; omega
 inn x hx := by
  have h1 := h.le; have h2 := g.le
  rcases Nat.eq_zero_or_pos (c x) with hc | hc
  ·have := g.inn x (by omega); omega
  ·have := h.inn x hc; omega
 nm x hx := by
  rcases Nat.eq_zero_or_pos (c x) with hc | hc
  ·exact g.nm x (by omega)
  ·exact h.nm x hc
 all x h1 h2 h3 h4 := by
  rcases Nat.lt_or_ge x m with hx | hx
  ·have := h.all x h1 hx h3 h4; omega
  ·have := g.all x hx h2 h3 h4; omega
theorem Skip.nil (n : Nat) : Skip S n n := ⟨Nat.le_refl _, fun _ => by omega, fun _ h => by omega, fun _ h => by omega, fun x h1 h2 => by omega⟩
theorem skip_one {n : Nat} (h : S.nm n = false ∨ S.is n [42] = true) : Skip S n (n + 1) :=
 ⟨by omega, fun _ => by omega, fun _ h => by omega, fun _ h => by omega, fun x h1 h2 h3 h4 => by
  have : x = n := by omega
  subst this
  rcases h with h | h
  ·rw [h3] at h; cases h
  ·rw [h4] at h; cases h⟩
theorem Skip.cat {n m k : Nat} (h : Skip S n m) (g : Skip S m k) : Skip S n k := (h.add g).ext fun _ => rfl
theorem Cov.skip {n m k : Nat} {c : Int → Nat} (h : Cov S n m c) (g : Skip S m k) : Cov S n k c := (h.add g).ext fun _ => rfl
theorem Skip.then {n m k : Nat} {c : Int → Nat} (g : Skip S n m) (h : Cov S m k c) : Cov S n k c := (g.add h).ext fun x => by simp

def cnN (l : List Nat) (x : Int) : Nat := (l.map fun y : Nat => (y : Int)).count x
theorem cnN_nil (x : Int) : cnN [] x = 0 := rfl
theorem cnN_append (a b : List Nat) (x : Int) : cnN (a ++ b) x = cnN a x + cnN b x := by simp [cnN, List.count_append]
theorem name_one {n : Nat} (h : S.nm n = true) : Cov S n (n + 1) (cnN [n]) := by
 have e : ∀ x : Int, cnN [n] x = if x = n then 1 else 0 := fun x => by
  by_cases hx : x = (n : Int)
  ·subst hx; simp [cnN]
  ·simp only [cnN, List.map_cons, List.map_nil, hx, if_false]
   rw [List.count_cons_of_ne (fun e => hx e.symm)]; rfl
 refine ⟨by omega, fun x => by rw [e]; split <;> omega, fun x hx => ?_, fun x hx => ?_, fun x h1 h2 h3 _ => ?_⟩
 ·rw [e] at hx; split at hx <;> omega
 ·rw [e] at hx
  split at hx
  ·have : x = n := by omega
   subst this; exact h
  ·omega
 ·have : x = n := by omega
  subst this
  rw [e, if_pos rfl]; omega

/-- What a call comes to, if it comes to something. -/
def Ret {α : Type} (o : Out α) (P : α → Nat → Prop) : Prop := ∀ x m, o = .ok x m → P x m
theorem ret_bind {α β : Type} {o : Out α} {f : α → Nat → Out β} {P : α → Nat → Prop} {Q : β → Nat → Prop} (h : Ret o P) (hf : ∀ x m, P x m → Ret (f x m) Q) : Ret (o.bind f) Q := by
 intro x m e
 cases o with
 | ok a n => exact hf a n (h a n rfl) x m e
 | form n => cases e
 | deep n => cases e
 | dry => cases e
theorem ret_ok {α : Type} {x : α} {m : Nat} {P : α → Nat → Prop} (h : P x m) : Ret (.ok x m) P := by
 intro y k e
 injection e with e1 e2
 subst e1 e2; exact h
theorem ret_form {α : Type} {n : Nat} {P : α → Nat → Prop} : Ret (.form n : Out α) P := fun _ _ e => by cases e
theorem ret_deep {α : Type} {n : Nat} {P : α → Nat → Prop} : Ret (.deep n : Out α) P := fun _ _ e => by cases e
theorem ret_dry {α : Type} {P : α → Nat → Prop} : Ret (.dry : Out α) P := fun _ _ e => by cases e
theorem ret_if {α : Type} {c : Bool} {a b : Out α} {P : α → Nat → Prop} (ha : c = true → Ret a P) (hb : c = false → Ret b P) : Ret (bif c then a else b) P := by
 cases c
 ·exact hb rfl
 ·exact ha rfl
theorem Ret.mono {α : Type} {o : Out α} {P Q : α → Nat → Prop} (h : Ret o P) (hq : ∀ x m, P x m → Q x m) : Ret o Q := fun x m e => hq x m (h x m e)

/-- A branch, branches, names from n on up to m. -/
structure QB (S : Src) (n : Nat) (b : Pb) (m : Nat) : Prop where
 rt : b.Rt
 lo : (n : Int) ≤ b.fr
 hi : b.to ≤ (m : Int)
 cov : Cov S n m fun x => b.cnt x
structure QL (S : Src) (n : Nat) (l : List Pb) (m : Nat) : Prop where
 ch : ChainP n m l
 cov : Cov S n m fun x => cntL x l
structure QN (S : Src) (n : Nat) (l : List Nat) (m : Nat) : Prop where
 inn : ∀ x ∈ l, n ≤ x ∧ x < m
 cov : Cov S n m (cnN l)
theorem QL.nil (n : Nat) : QL S n [] n := ⟨by simp [ChainP], (Skip.nil n).ext fun _ => rfl⟩
theorem QL.skip {n m k : Nat} {l : List Pb} (h : QL S n l m) (g : Skip S m k) : QL S n l k := ⟨h.ch.up (by have := g.le; omega), h.cov.skip g⟩
theorem Skip.ql {n m k : Nat} {l : List Pb} (g : Skip S n m) (h : QL S m l k) : QL S n l k := ⟨h.ch.low (by have := g.le; omega), g.then h.cov⟩
theorem QL.cat {n m k : Nat} {l r : List Pb} (h : QL S n l m) (g : QL S m r k) : QL S n (l ++ r) k := ⟨h.ch.cat g.ch, (h.cov.add g.cov).ext fun x => cntL_append x l r⟩
theorem QB.ql {n m : Nat} {b : Pb} (h : QB S n b m) : QL S n [b] m := ⟨by simp only [ChainP]; exact ⟨h.rt, h.lo, h.hi⟩, h.cov.ext fun x => by simp [cntL]⟩
theorem QL.one {n m : Nat} {b : Pb} (h : QL S n [b] m) : QB S n b m := by
 have hc := h.ch
 simp only [ChainP] at hc
 exact ⟨hc.1, hc.2.1, hc.2.2, h.cov.ext fun x => by simp [cntL]⟩
theorem QB.skip {n m k : Nat} {b : Pb} (h : QB S n b m) (g : Skip S m k) : QB S n b k := (h.ql.skip g).one
theorem Skip.qb {n m k : Nat} {b : Pb} (g : Skip S n m) (h : QB S m b k) : QB S n b k := (g.ql h.ql).one
theorem QN.nil (n : Nat) : QN S n [] n := ⟨fun x hx => (by cases hx), (Skip.nil n).ext fun _ => rfl⟩
theorem QN.skip {n m k : Nat} {l : List Nat} (h : QN S n l m) (g : Skip S m k) : QN S n l k := ⟨fun x hx => by have := h.inn x hx; have := g.le; omega, h.cov.skip g⟩
theorem Skip.qn {n m k : Nat} {l : List Nat} (g : Skip S n m) (h : QN S m l k) : QN S n l k := ⟨fun x hx => by have := h.inn x hx; have := g.le; omega, g.then h.cov⟩
theorem QN.cat {n m k : Nat} {l r : List Nat} (h : QN S n l m) (g : QN S m r k) : QN S n (l ++ r) k :=
 ⟨fun x hx => by
  have h1 := h.cov.le; have h2 := g.cov.le
  rcases List.mem_append.1 hx with hx | hx
  ·have := h.inn x hx; omega
  ·have := g.inn x hx; omega, (h.cov.add g.cov).ext fun x => cnN_append l r x⟩
/-- A branch of names and parts, in whichever order these stand. -/
theorem node_mix {k : Int} {n m : Nat} {ns : List Nat} {l : List Pb} {c : Int → Nat} (hk : 0 < k) (hn : ∀ x ∈ ns, n ≤ x ∧ x < m) (hl : ChainP n m l) (hc : Cov S n m c) (he : ∀ x, cnN ns x + cntL x l = c x) : QB S n (node k n m ns l) m := by
 refine ⟨?_, ?_, ?_, hc.ext fun x => ?_⟩
 ·have := hc.le
  simp only [node, Pb.Rt]
  refine ⟨hk, by omega, by omega, fun x hx => ?_, hl⟩
  obtain ⟨y, hy, rfl⟩ := List.mem_map.1 hx
  have := hn y hy; omega
 ·simp [node, Pb.fr]
 ·simp [node, Pb.to]
 ·simp only [node, Pb.cnt]; exact he x
theorem node_ks {k : Int} {n m : Nat} {l : List Pb} (hk : 0 < k) (h : QL S n l m) : QB S n (node k n m [] l) m :=
 node_mix hk (fun x hx => by cases hx) h.ch h.cov (fun x => by simp [cnN_nil])
theorem node_ns {k : Int} {n m : Nat} {ns : List Nat} (hk : 0 < k) (h : QN S n ns m) : QB S n (node k n m ns []) m :=
 node_mix hk h.inn (by simp only [ChainP]; have := h.cov.le; omega) h.cov (fun x => by simp [cntL])
theorem node_nk {k : Int} {n j m : Nat} {ns : List Nat} {l : List Pb} (hk : 0 < k) (h : QN S n ns j) (g : QL S j l m) : QB S n (node k n m ns l) m :=
 node_mix hk (fun x hx => by have := h.inn x hx; have := g.cov.le; omega) (g.ch.low (by have := h.cov.le; omega)) (h.cov.add g.cov) (fun x => rfl)
theorem node_kn {k : Int} {n j m : Nat} {ns : List Nat} {l : List Pb} (hk : 0 < k) (g : QL S n l j) (h : QN S j ns m) : QB S n (node k n m ns l) m :=
 node_mix hk (fun x hx => by have := h.inn x hx; have := g.cov.le; omega) (g.ch.up (by have := h.cov.le; omega)) (g.cov.add h.cov) (fun x => Nat.add_comm _ _)
theorem node_knk {k : Int} {n i j m : Nat} {ns : List Nat} {l r : List Pb} (hk : 0 < k) (g : QL S n l i) (h : QN S i ns j) (g2 : QL S j r m) : QB S n (node k n m ns (l ++ r)) m := by
 have h1 := g.cov.le; have h2 := h.cov.le; have h3 := g2.cov.le
 exact node_mix hk (fun x hx => by have := h.inn x hx; omega) ((g.ch.up (by omega)).cat (g2.ch)) ((g.cov.add h.cov).add g2.cov) (fun x => by rw [cntL_append]; omega)
theorem QB.marked {n m : Nat} {b : Pb} {k : Int} (h : QB S n b m) : QB S n (marked k b) m := by
 obtain ⟨h1, h2, h3, h4⟩ := h
 cases b
 exact ⟨by simpa only [Go.Proofs.YtkjgkchdkeggoaaGreatDoor.marked, Pb.Rt] using h1, h2, h3, h4.ext fun x => by simp only [Go.Proofs.YtkjgkchdkeggoaaGreatDoor.marked, Pb.cnt]⟩
theorem oneOr_ks {k : Int} {n m : Nat} {l : List Pb} (hk : 0 < k) (h : QL S n l m) : QB S n (oneOr l k n m []) m := by
 unfold oneOr
 split
 ·exact h.one
 ·exact node_ks hk h
end

/-- Of words and marks: no name is spelled so, but *. -/
def noName (t : List UInt8) : Bool := t == [42] || !((tokN t).1 == 6 || (tokN t).1 == 7 || (tokN t).1 == 9)
theorem pick_sub (ask : Int → Bool) (l : List Tok) : ∀ t ∈ pickT ask l, t ∈ l := by
 induction l with
 | nil => intro t h; exact h
 | cons x r ih =>
  intro t h
  unfold pickT at h
  cases hx : ask x.k <;> rw [hx] at h
  ·exact List.mem_cons_of_mem _ (ih t h)
  ·rcases List.mem_cons.1 h with rfl | h
   ·exact List.mem_cons_self
   ·exact List.mem_cons_of_mem _ (ih t h)
theorem kd_tok {S : Src} (T : S.ts = wordsT S.s) (n : Nat) : S.kd n = (tokN (S.tx n).data.toList).1 := by
 unfold Src.kd Src.tx
 cases h : S.ts[n]? with
 | none => rfl
 | some t =>
  have hm : t ∈ scanT S.s := by
   have : t ∈ S.ts := List.mem_of_getElem? h
   rw [T] at this
   unfold wordsT at this
   exact pick_sub _ _ _ this
  obtain ⟨h1, h2⟩ := restT_mem S.s 0 (by omega) t hm
  simp only
  by_cases hlt : t.a < S.s.size
  ·have e := tokAt_in S.s t.a hlt
   rw [← h2] at e
   have hne : S.s.data.toList.drop t.a ≠ [] := by rw [drop_at S.s t.a hlt]; simp
   have ha := tok_again (S.s.data.toList.drop t.a) hne
   have ek : t.k = (tokN (S.s.data.toList.drop t.a)).1 := congrArg Tok.k e
   have ee : t.e = t.a + (tokN (S.s.data.toList.drop t.a)).2 := congrArg Tok.e e
   rw [ee, extract_drop, ha, ek]
  ·have : t.a = S.s.size := by omega
   rw [this, tokAt_end] at h2
   have hk : t.k = 0 := congrArg Tok.k h2
   have he : t.e = S.s.size := congrArg Tok.e h2
   rw [hk, he, this]
   have : (S.s.extract S.s.size S.s.size).data.toList = [] := by
    apply List.eq_nil_of_length_eq_zero
    simp
   rw [this]; rfl
section
variable {S : Src} (T : S.ts = wordsT S.s)
include T
theorem skip_is {t : List UInt8} (ht : noName t = true) {n : Nat} (h : S.is n t = true) : Skip S n (n + 1) := by
 have e : (S.tx n).data.toList = t := by unfold Src.is at h; simpa using h
 have hk := kd_tok T n
 rw [e] at hk
 unfold noName at ht
 refine skip_one ?_
 rcases Bool.or_eq_true_iff.1 ht with h1 | h1
 ·right; rw [beq_iff_eq.1 h1] at h; exact h
 ·left; unfold Src.nm; rw [hk]; simpa using h1
omit T in
theorem skip_kd {n : Nat} {k : Int} (h : (S.kd n == k) = true) (hk : (k == 6 || k == 7 || k == 9) = false) : Skip S n (n + 1) := by
 refine skip_one (.inl ?_)
 unfold Src.nm
 rw [beq_iff_eq.1 h]; exact hk
theorem need_rt {t : List UInt8} (ht : noName t = true) (n : Nat) : Ret (S.need t n) fun _ m => Skip S n m := by
 unfold Src.need
 exact ret_if (fun h => ret_ok (skip_is T ht h)) (fun _ => ret_form)
omit T in
theorem take_nm {ks : List Int} (hk : ∀ k ∈ ks, (k == 6 || k == 7 || k == 9) = true) (n : Nat) : Ret (S.take ks n) fun x m => QN S n [x] m := by
 unfold Src.take
 refine ret_if (fun h => ret_ok ⟨fun x hx => ?_, name_one ?_⟩) (fun _ => ret_form)
 ·have : x = n := by simpa using hx
  omega
 ·exact hk _ (by simpa using h)
omit T in
theorem take_sk (n : Nat) : Ret (S.take [8] n) fun _ m => Skip S n m := by
 unfold Src.take
 refine ret_if (fun h => ret_ok (skip_kd (k := 8) ?_ rfl)) (fun _ => ret_form)
 simpa using h
theorem pathL_rt {ks : List Int} (hk : ∀ k ∈ ks, (k == 6 || k == 7 || k == 9) = true) (p : Nat) : ∀ (f : Nat) (acc : List Nat) (n : Nat), QN S p acc n → Ret (S.pathL ks f acc n) fun l m => QN S p l m := by
 intro f
 induction f with
 | zero => intro acc n _; exact ret_dry
 | succ f ih =>
  intro acc n h
  unfold Src.pathL
  refine ret_if (fun hc => ?_) (fun _ => ret_ok h)
  simp only [Bool.and_eq_true] at hc
  have hs := skip_is T (t := [46]) (by kernel_rfl) hc.2
  exact ret_bind (take_nm hk (n + 1)) (fun x m hx => ih _ _ (h.cat (hs.qn hx)))
theorem path_rt {ks : List Int} (hk : ∀ k ∈ ks, (k == 6 || k == 7 || k == 9) = true) (n : Nat) : Ret (S.path ks n) fun l m => QN S n l m := by
 unfold Src.path
 exact ret_bind (take_nm hk n) (fun x m hx => pathL_rt T hk n _ _ _ hx)
theorem typePath_rt (n : Nat) : Ret (S.typePath n) fun l m => QN S n l m := by
 unfold Src.typePath
 exact ret_bind (path_rt T (by decide) n) (fun p m hp => ret_if (fun _ => ret_ok hp) (fun _ => ret_form))
theorem value_rt (n : Nat) : Ret (S.value n) fun x m => QN S n [x] m := by
 unfold Src.value
 refine ret_if (fun h => ?_) (fun _ => take_nm (by decide) n)
 exact (take_nm (by decide) (n + 1)).mono fun x m hx => (skip_is T (by kernel_rfl) h).qn hx
theorem rowL_rt {mark : List UInt8} (hm : noName mark = true) {read : Nat → Out Pb} (hr : ∀ k, Ret (read k) fun b m => QB S k b m) (p : Nat) : ∀ (f : Nat) (acc : List Pb) (n : Nat), QL S p acc n → Ret (rowL S mark read f acc n) fun l m => QL S p l m := by
 intro f
 induction f with
 | zero => intro acc n _; exact ret_dry
 | succ f ih =>
  intro acc n h
  unfold rowL
  refine ret_if (fun hc => ?_) (fun _ => ret_ok h)
  exact ret_bind (hr (n + 1)) (fun b m hb => ih _ _ (h.cat ((skip_is T hm hc).ql hb.ql)))
theorem rowO_rt (F : Nat) {mark : List UInt8} (hm : noName mark = true) {read : Nat → Out Pb} (hr : ∀ k, Ret (read k) fun b m => QB S k b m) (n : Nat) : Ret (rowO S F mark read n) fun l m => QL S n l m := by
 unfold rowO
 exact ret_bind (hr n) (fun b m hb => rowL_rt T hm hr n F [b] m hb.ql)
theorem colon_rt (n : Nat) (h : ((S.colon n).1 == 0) = false) : Skip S n (n + 1) := by
 unfold Src.colon at h
 cases h1 : S.is n [58]
 ·cases h2 : S.is n [58, 62]
  ·rw [h1, h2] at h; cases h
  ·exact skip_is T (by kernel_rfl) h2
 ·exact skip_is T (by kernel_rfl) h1
section
variable {F : Nat} {rec : Nt → Nat → Nat → Out Pb} {d : Nat} (hrec : ∀ nt k, S.may nt k → Ret (rec nt d k) fun b m => QB S k b m)
include hrec
theorem atomicTyO_rt (n : Nat) : Ret (atomicTyO S F rec d n) fun b m => QB S n b m := by
 unfold atomicTyO
 refine ret_if (fun h => ret_ok (node_ks (by decide) ((QL.nil n).skip (skip_kd h rfl)))) (fun _ => ret_if (fun h => ?_) (fun _ => ?_))
 ·refine ret_bind (rowO_rt T F (by kernel_rfl) (fun k => hrec .ty k trivial) (n + 1)) (fun l m hl => ?_)
  refine ret_bind (need_rt T (by kernel_rfl) m) (fun _ m2 h2 => ?_)
  have hl2 := (skip_is T (by kernel_rfl) h).ql (hl.skip h2)
  unfold pick1
  split
  ·exact ret_ok hl2.one
  ·exact ret_bind (typePath_rt T m2) (fun p m3 hp => ret_ok (node_kn (by decide) hl2 hp))
 ·exact ret_bind (typePath_rt T n) (fun p m3 hp => ret_ok (node_ns (by decide) hp))
theorem appliedL_rt (n : Nat) : ∀ (f : Nat) (b : Pb) (m : Nat), QB S n b m → Ret (appliedL S n f b m) fun b m => QB S n b m := by
 have _ := hrec
 intro f
 induction f with
 | zero => intro b m _; exact ret_dry
 | succ f ih =>
  intro b m h
  unfold appliedL
  exact ret_if (fun _ => ret_bind (typePath_rt T m) (fun p m1 hp => ih _ _ (node_kn (by decide) h.ql hp))) (fun _ => ret_ok h)
theorem appliedO_rt (n : Nat) : Ret (appliedO S F rec d n) fun b m => QB S n b m := by
 unfold appliedO
 exact ret_bind (atomicTyO_rt T hrec n) (fun b m hb => appliedL_rt T hrec n F b m hb)
theorem productO_rt (n : Nat) : Ret (productO S F rec d n) fun b m => QB S n b m := by
 unfold productO
 exact ret_bind (rowO_rt T F (by kernel_rfl) (appliedO_rt T hrec) n) (fun l m hl => ret_ok (oneOr_ks (by decide) hl))
theorem tyO_rt (n : Nat) : Ret (tyO S F rec d n) fun b m => QB S n b m := by
 unfold tyO
 refine ret_bind (productO_rt T hrec n) (fun b m hb => ret_if (fun h => ?_) (fun _ => ret_ok hb))
 exact ret_bind (hrec .ty (m + 1) trivial) (fun c m2 hc => ret_ok (node_ks (by decide) (hb.ql.cat ((skip_is T (by kernel_rfl) h).ql hc.ql))))
omit hrec in
theorem tupleO_rt {fr n : Nat} (hs : Skip S fr n) {member : Nat → Out Pb} (hm : ∀ k, Ret (member k) fun b m => QB S k b m) : Ret (tupleO S F fr member n) fun b m => QB S fr b m := by
 unfold tupleO
 refine ret_if (fun h => ret_ok (node_ks (by decide) ((QL.nil fr).skip (hs.cat (skip_is T (by kernel_rfl) h))))) (fun _ => ?_)
 refine ret_bind (rowO_rt T F (by kernel_rfl) hm n) (fun l m hl => ?_)
 exact ret_bind (need_rt T (by kernel_rfl) m) (fun _ m2 h2 => ret_ok (oneOr_ks (by decide) (hs.ql (hl.skip h2))))
omit hrec in
theorem plainO_rt {named : Int} (hk : 0 < named) {member : Nat → Out Pb} (hm : ∀ k, Ret (member k) fun b m => QB S k b m) (n : Nat) : Ret (plainO S F named member n) fun b m => QB S n b m := by
 unfold plainO
 refine ret_if (fun h => ret_ok (node_ks (by decide) ((QL.nil n).skip (skip_kd h rfl)))) (fun _ => ret_if (fun h => ret_ok (node_ks (by decide) ((QL.nil n).skip (skip_kd h rfl)))) (fun _ => ret_if (fun h => ?_) (fun _ => ?_)))
 ·exact tupleO_rt T (skip_is T (by kernel_rfl) h) hm
 ·exact ret_bind (value_rt T n) (fun x m hx => ret_ok (node_ns hk hx))
theorem atomicPatO_rt (n : Nat) : Ret (atomicPatO S F rec d n) fun b m => QB S n b m := by
 unfold atomicPatO
 refine ret_if (fun h => ret_ok (node_ks (by decide) ((QL.nil n).skip (skip_is T (by kernel_rfl) h)))) (fun _ => ret_if (fun _ => ?_) (fun _ => plainO_rt T (by decide) (fun k => hrec .pat k trivial) n))
 exact ret_bind (path_rt T (by decide) n) (fun p m hp => ret_ok (node_ns (by decide) hp))
theorem patO_rt (n : Nat) : Ret (patO S F rec d n) fun b m => QB S n b m := by
 unfold patO
 refine ret_if (fun h => ?_) (fun _ => ret_if (fun _ => ?_) (fun _ => atomicPatO_rt T hrec n))
 ·simp only [Bool.and_eq_true, beq_iff_eq] at h
  have h1 : QN S n [n] (n + 1) := ⟨fun x hx => by have : x = n := (by simpa using hx); omega, name_one (by unfold Src.nm; rw [h.1]; rfl)⟩
  exact ret_bind (hrec .pat (n + 2) trivial) (fun b m hb => ret_ok (node_nk (by decide) h1 ((skip_is T (by kernel_rfl) h.2).ql hb.ql)))
 ·refine ret_bind (path_rt T (by decide) n) (fun p m hp => ret_if (fun _ => ?_) (fun _ => ret_ok (node_ns (by decide) hp)))
  exact ret_bind (atomicPatO_rt T hrec m) (fun b m2 hb => ret_ok (node_nk (by decide) hp hb.ql))
theorem decsL_rt (a p : Nat) : ∀ (f : Nat) (acc : List Pb) (n : Nat), QL S p acc n → Ret (decsL S rec d a f acc n) fun l m => QL S p l m := by
 intro f
 induction f with
 | zero => intro acc n _; exact ret_dry
 | succ f ih =>
  intro acc n h
  unfold decsL
  refine ret_if (fun hc => ih _ _ (h.skip (skip_is T (by kernel_rfl) hc))) (fun _ => ret_if (fun hd => ?_) (fun _ => ret_ok h))
  exact ret_bind (hrec (.dec a) n hd) (fun b m hb => ih _ _ (h.cat hb.ql))
theorem decsO_rt (a n : Nat) : Ret (decsO S F rec d a n) fun l m => QL S n l m := decsL_rt T hrec a n F [] n (QL.nil n)
theorem withinO_rt (a n : Nat) : Ret (withinO S F rec d a n) fun b m => QB S n b m := by
 unfold withinO
 exact ret_bind (decsO_rt T hrec a n) (fun l m hl => ret_ok (node_ks (by decide) hl))
theorem atomO_rt (n : Nat) : Ret (atomO S F rec d n) fun b m => QB S n b m := by
 unfold atomO
 refine ret_if (fun _ => ?_) (fun _ => ret_if (fun h => ?_) (fun _ => plainO_rt T (by decide) (fun k => hrec .exp k trivial) n))
 ·exact ret_bind (path_rt T (by decide) n) (fun p m hp => ret_if (fun _ => ret_ok (node_ns (by decide) hp)) (fun _ => ret_ok (node_ns (by decide) hp)))
 ·refine ret_bind (withinO_rt T hrec 0 (n + 1)) (fun ds m hd => ?_)
  refine ret_bind (need_rt T (by kernel_rfl) m) (fun _ m2 h2 => ?_)
  refine ret_bind (hrec .exp m2 trivial) (fun e m3 he => ?_)
  exact ret_bind (need_rt T (by kernel_rfl) m3) (fun _ m4 h4 => ret_ok (node_ks (by decide) (((skip_is T (by kernel_rfl) h).ql hd.ql).cat (h2.ql (he.ql.skip h4)))))
theorem callL_rt (p : Nat) : ∀ (f : Nat) (acc : List Pb) (n : Nat), QL S p acc n → Ret (callL S F rec d f acc n) fun l m => QL S p l m := by
 intro f
 induction f with
 | zero => intro acc n _; exact ret_dry
 | succ f ih =>
  intro acc n h
  unfold callL
  exact ret_if (fun _ => ret_bind (atomO_rt T hrec n) (fun b m hb => ih _ _ (h.cat hb.ql))) (fun _ => ret_ok h)
theorem callO_rt (n : Nat) : Ret (callO S F rec d n) fun b m => QB S n b m := by
 unfold callO
 refine ret_bind (atomO_rt T hrec n) (fun b m hb => ?_)
 exact ret_bind (callL_rt T hrec n F [b] m hb.ql) (fun l m2 hl => ret_ok (oneOr_ks (by decide) hl))
/-- Signs and what stands between them. -/
def QI (S : Src) (n : Nat) (l : List Nat × List Pb) (m : Nat) : Prop := l.2.length = l.1.length + 1 ∧ ChainP n m l.2 ∧ (∀ x ∈ l.1, n ≤ x ∧ x < m) ∧ Cov S n m fun x => cnN l.1 x + cntL x l.2
theorem infixL_rt (p : Nat) : ∀ (f : Nat) (sg : List Nat) (acc : List Pb) (n : Nat), QI S p (sg, acc) n → Ret (infixL S F rec d f sg acc n) fun l m => QI S p l m := by
 intro f
 induction f with
 | zero => intro sg acc n _; exact ret_dry
 | succ f ih =>
  intro sg acc n h
  unfold infixL
  refine ret_if (fun _ => ?_) (fun _ => ret_ok h)
  refine ret_bind (take_nm (by decide) n) (fun x m hx => ret_bind (callO_rt T hrec m) (fun b m2 hb => ih _ _ _ ?_))
  obtain ⟨h1, h2, h3, h4⟩ := h
  have i1 := h4.le; have i2 := hx.cov.le; have i3 := hb.cov.le
  have h1' : acc.length = sg.length + 1 := h1
  have h3' : ∀ x ∈ sg, p ≤ x ∧ x < n := h3
  refine ⟨by simp only [List.length_append, List.length_singleton]; omega, (h2.up (by omega)).cat hb.ql.ch, fun y hy => ?_, ((h4.add hx.cov).add hb.cov).ext fun y => ?_⟩
  ·rcases List.mem_append.1 hy with hy | hy
   ·have := h3' y hy; omega
   ·have := hx.inn y hy; omega
  ·simp only [cnN_append, cntL_append, cntL]; omega
theorem infixO_rt (n : Nat) : Ret (infixO S F rec d n) fun b m => QB S n b m := by
 unfold infixO
 refine ret_bind (callO_rt T hrec n) (fun b m hb => ?_)
 refine ret_bind (infixL_rt T hrec n F [] [b] m ⟨rfl, hb.ql.ch, fun x hx => (by cases hx), hb.ql.cov.ext fun x => by simp [cnN_nil]⟩) (fun l m2 hl => ret_ok ?_)
 obtain ⟨sg, ks⟩ := l
 obtain ⟨h1, h2, h3, h4⟩ := hl
 have h1 : ks.length = sg.length + 1 := h1
 have h2 : ChainP n m2 ks := h2
 have h4 : Cov S n m2 fun x => cnN sg x + cntL x ks := h4
 show QB S n (oneOr ks 37 n m2 sg) m2
 unfold oneOr
 split
 ·next b =>
  have h1 : 1 = sg.length + 1 := h1
  have : sg = [] := List.length_eq_zero_iff.1 (by omega)
  subst this
  exact QL.one ⟨h2, h4.ext fun x => by simp [cnN_nil]⟩
 ·exact node_mix (by decide) h3 h2 h4 (fun _ => rfl)
theorem clauseO_rt {k : Int} (hk : 0 < k) {fr n : Nat} (hs : Skip S fr n) : Ret (clauseO S rec d k fr n) fun b m => QB S fr b m := by
 unfold clauseO
 refine ret_bind (hrec .pat n trivial) (fun p m hp => ?_)
 refine ret_bind (need_rt T (by kernel_rfl) m) (fun _ m2 h2 => ?_)
 exact ret_bind (hrec .exp m2 trivial) (fun e m3 he => ret_ok (node_ks hk ((hs.ql hp.ql).cat (h2.ql he.ql))))
theorem armO_rt (n : Nat) : Ret (armO S rec d n) fun b m => QB S n b m := clauseO_rt T hrec (by decide) (Skip.nil n)
theorem expO_rt (n : Nat) : Ret (expO S F rec d n) fun b m => QB S n b m := by
 unfold expO
 refine ret_if (fun h => ?_) (fun _ => ret_if (fun h => ?_) (fun _ => ret_if (fun h => ?_) (fun _ => infixO_rt T hrec n)))
 ·refine ret_bind (hrec .exp (n + 1) trivial) (fun a m ha => ?_)
  refine ret_bind (need_rt T (by kernel_rfl) m) (fun _ m2 h2 => ?_)
  refine ret_bind (hrec .exp m2 trivial) (fun b m3 hb => ?_)
  refine ret_bind (need_rt T (by kernel_rfl) m3) (fun _ m4 h4 => ?_)
  exact ret_bind (hrec .exp m4 trivial) (fun c m5 hc => ret_ok (node_ks (by decide) (((skip_is T (by kernel_rfl) h).ql ha.ql).cat ((h2.ql hb.ql).cat (h4.ql hc.ql)))))
 ·refine ret_bind (hrec .exp (n + 1) trivial) (fun a m ha => ?_)
  refine ret_bind (need_rt T (by kernel_rfl) m) (fun _ m2 h2 => ?_)
  exact ret_bind (rowO_rt T F (by kernel_rfl) (armO_rt T hrec) m2) (fun l m3 hl => ret_ok (node_ks (by decide) (((skip_is T (by kernel_rfl) h).ql ha.ql).cat (h2.ql hl))))
 ·exact clauseO_rt T hrec (by decide) (skip_is T (by kernel_rfl) h)
omit hrec in
theorem varsL_rt (p : Nat) : ∀ (f n : Nat), Skip S p n → Ret (varsL S f n) fun _ m => Skip S p m := by
 intro f
 induction f with
 | zero => intro n _; exact ret_dry
 | succ f ih =>
  intro n h
  unfold varsL
  exact ret_if (fun hc => ret_bind (take_sk (n + 1)) (fun _ m hm => ih _ ((h.cat (skip_is T (by kernel_rfl) hc)).cat hm))) (fun _ => ret_ok h)
omit hrec in
theorem typeNameO_rt (n : Nat) : Ret (typeNameO S F n) fun x m => QN S n [x] m := by
 unfold typeNameO
 refine ret_if (fun h => ?_) (fun _ => ret_if (fun h => ?_) (fun _ => take_nm (by decide) n))
 ·exact (take_nm (by decide) (n + 1)).mono fun x m hx => (skip_kd h rfl).qn hx
 ·refine ret_bind (take_sk (n + 1)) (fun _ m hm => ?_)
  refine ret_bind (varsL_rt T (n + 1) F m hm) (fun _ m2 h2 => ?_)
  refine ret_bind (need_rt T (by kernel_rfl) m2) (fun _ m3 h3 => ?_)
  exact (take_nm (by decide) m3).mono fun x m hx => ((skip_is T (by kernel_rfl) h).cat (h2.cat h3)).qn hx
theorem conO_rt (n : Nat) : Ret (conO S rec d n) fun b m => QB S n b m := by
 unfold conO
 refine ret_bind (take_nm (by decide) n) (fun x m hx => ret_if (fun h => ?_) (fun _ => ret_ok (node_ns (by decide) hx)))
 exact ret_bind (hrec .ty (m + 1) trivial) (fun b m2 hb => ret_ok (node_nk (by decide) hx ((skip_is T (by kernel_rfl) h).ql hb.ql)))
theorem dbindO_rt (n : Nat) : Ret (dbindO S F rec d n) fun b m => QB S n b m := by
 unfold dbindO
 refine ret_bind (typeNameO_rt T n) (fun x m hx => ?_)
 refine ret_bind (need_rt T (by kernel_rfl) m) (fun _ m2 h2 => ?_)
 exact ret_bind (rowO_rt T F (by kernel_rfl) (conO_rt T hrec) m2) (fun l m3 hl => ret_ok (node_nk (by decide) hx (h2.ql hl)))
theorem datatypesO_rt {fr n : Nat} (hs : Skip S fr n) : Ret (datatypesO S F rec d fr n) fun b m => QB S fr b m := by
 unfold datatypesO
 exact ret_bind (rowO_rt T F (by kernel_rfl) (dbindO_rt T hrec) n) (fun l m hl => ret_ok (node_ks (by decide) (hs.ql hl)))
theorem specO_rt (n : Nat) : Ret (specO S F rec d n) fun b m => QB S n b m := by
 unfold specO
 refine ret_if (fun h => ?_) (fun _ => ret_if (fun h => ?_) (fun _ => ret_if (fun h => ?_) (fun _ => ret_if (fun h => ?_) (fun _ => ?_))))
 ·refine ret_bind (value_rt T (n + 1)) (fun x m hx => ?_)
  refine ret_bind (need_rt T (by kernel_rfl) m) (fun _ m2 h2 => ?_)
  exact ret_bind (hrec .ty m2 trivial) (fun b m3 hb => ret_ok (node_nk (by decide) ((skip_is T (by kernel_rfl) h).qn hx) (h2.ql hb.ql)))
 ·refine ret_bind (typeNameO_rt T (n + 1)) (fun x m hx => ret_if (fun h2 => ?_) (fun _ => ret_ok (node_ns (by decide) ((skip_is T (by kernel_rfl) h).qn hx))))
  exact ret_bind (hrec .ty (m + 1) trivial) (fun b m3 hb => ret_ok (node_nk (by decide) ((skip_is T (by kernel_rfl) h).qn hx) ((skip_is T (by kernel_rfl) h2).ql hb.ql)))
 ·exact datatypesO_rt T hrec (skip_is T (by kernel_rfl) h)
 ·refine ret_bind (take_nm (by decide) (n + 1)) (fun x m hx => ?_)
  refine ret_bind (need_rt T (by kernel_rfl) m) (fun _ m2 h2 => ?_)
  exact ret_bind (hrec .sig m2 trivial) (fun b m3 hb => ret_ok (node_nk (by decide) ((skip_is T (by kernel_rfl) h).qn hx) (h2.ql hb.ql)))
 ·refine ret_bind (need_rt T (by kernel_rfl) n) (fun _ m2 h2 => ?_)
  exact ret_bind (hrec .sig m2 trivial) (fun b m3 hb => ret_ok (node_ks (by decide) (h2.ql hb.ql)))
theorem specsL_rt (p : Nat) : ∀ (f : Nat) (acc : List Pb) (n : Nat), QL S p acc n → Ret (specsL S F rec d f acc n) fun l m => QL S p l m := by
 intro f
 induction f with
 | zero => intro acc n _; exact ret_dry
 | succ f ih =>
  intro acc n h
  unfold specsL
  refine ret_if (fun hc => ret_ok (h.skip (skip_is T (by kernel_rfl) hc))) (fun _ => ret_if (fun hc => ih _ _ (h.skip (skip_is T (by kernel_rfl) hc))) (fun _ => ?_))
  exact ret_bind (specO_rt T hrec n) (fun b m hb => ih _ _ (h.cat hb.ql))
theorem bareSigO_rt (n : Nat) : Ret (bareSigO S F rec d n) fun b m => QB S n b m := by
 unfold bareSigO
 refine ret_if (fun h => ?_) (fun _ => ret_bind (take_nm (by decide) n) (fun x m hx => ret_ok (node_ns (by decide) hx)))
 exact ret_bind (specsL_rt T hrec (n + 1) F [] (n + 1) (QL.nil _)) (fun l m hl => ret_ok (node_ks (by decide) ((skip_is T (by kernel_rfl) h).ql hl)))
theorem whereL_rt (p : Nat) : ∀ (f : Nat) (b : Pb) (n : Nat), QB S p b n → Ret (whereL S rec d p f b n) fun b m => QB S p b m := by
 intro f
 induction f with
 | zero => intro b n _; exact ret_dry
 | succ f ih =>
  intro b n h
  unfold whereL
  refine ret_if (fun hc => ?_) (fun _ => ret_ok h)
  refine ret_bind (need_rt T (by kernel_rfl) (n + 1)) (fun _ m h1 => ?_)
  refine ret_bind (typePath_rt T m) (fun p m2 hp => ?_)
  refine ret_bind (need_rt T (by kernel_rfl) m2) (fun _ m3 h3 => ?_)
  exact ret_bind (hrec .ty m3 trivial) (fun c m4 hb => ih _ _ (node_knk (l := [b]) (r := [c]) (by decide) (h.ql.skip ((skip_is T (by kernel_rfl) hc).cat h1)) hp (h3.ql hb.ql)))
theorem sigO_rt (n : Nat) : Ret (sigO S F rec d n) fun b m => QB S n b m := by
 unfold sigO
 exact ret_bind (bareSigO_rt T hrec n) (fun b m hb => whereL_rt T hrec n F b m hb)
theorem bareStrO_rt (n : Nat) : Ret (bareStrO S F rec d n) fun b m => QB S n b m := by
 unfold bareStrO
 refine ret_if (fun h => ?_) (fun _ => ret_if (fun h => ?_) (fun _ => ret_bind (path_rt T (by decide) n) (fun p m hp => ret_ok (node_ns (by decide) hp))))
 ·refine ret_bind (decsO_rt T hrec 1 (n + 1)) (fun l m hl => ?_)
  exact ret_bind (need_rt T (by kernel_rfl) m) (fun _ m2 h2 => ret_ok (node_ks (by decide) ((skip_is T (by kernel_rfl) h).ql (hl.skip h2))))
 ·simp only [Bool.and_eq_true, beq_iff_eq] at h
  have h1 : QN S n [n] (n + 1) := ⟨fun x hx => by have : x = n := (by simpa using hx); omega, name_one (by unfold Src.nm; rw [h.1]; rfl)⟩
  refine ret_bind (hrec .str (n + 2) trivial) (fun b m hb => ?_)
  exact ret_bind (need_rt T (by kernel_rfl) m) (fun _ m2 h2 => ret_ok (node_nk (by decide) h1 ((skip_is T (by kernel_rfl) h.2).ql (hb.ql.skip h2))))
theorem sealL_rt (p : Nat) : ∀ (f : Nat) (b : Pb) (n : Nat), QB S p b n → Ret (sealL S rec d p f b n) fun b m => QB S p b m := by
 intro f
 induction f with
 | zero => intro b n _; exact ret_dry
 | succ f ih =>
  intro b n h
  unfold sealL
  refine ret_if (fun _ => ret_ok h) (fun hc => ?_)
  exact ret_bind (hrec .sig (n + 1) trivial) (fun s m hs => ih _ _ (QB.marked (node_ks (by decide) (h.ql.cat ((colon_rt T n hc).ql hs.ql)))))
theorem strO_rt (n : Nat) : Ret (strO S F rec d n) fun b m => QB S n b m := by
 unfold strO
 exact ret_bind (bareStrO_rt T hrec n) (fun b m hb => sealL_rt T hrec n F b m hb)
theorem bodyO_rt (n : Nat) : Ret (bodyO S rec d n) fun l m => QL S n l.2 m := by
 unfold bodyO
 refine ret_bind (P := fun l m => QL S n l m) (ret_if (fun _ => ret_ok (QL.nil n)) (fun hc => ?_)) (fun l m hl => ?_)
 ·exact ret_bind (hrec .sig (n + 1) trivial) (fun s m hs => ret_ok ((colon_rt T n hc).ql hs.ql))
 ·refine ret_bind (need_rt T (by kernel_rfl) m) (fun _ m2 h2 => ?_)
  exact ret_bind (hrec .str m2 trivial) (fun b m3 hb => ret_ok (hl.cat (h2.ql hb.ql)))
theorem structureO_rt {fr n : Nat} (hs : Skip S fr n) : Ret (structureO S rec d fr n) fun b m => QB S fr b m := by
 unfold structureO
 refine ret_bind (take_nm (by decide) n) (fun x m hx => ?_)
 exact ret_bind (bodyO_rt T hrec m) (fun l m2 hl => ret_ok (QB.marked (node_nk (by decide) (hs.qn hx) hl)))
theorem functorO_rt {fr n : Nat} (hs : Skip S fr n) : Ret (functorO S rec d fr n) fun b m => QB S fr b m := by
 unfold functorO
 refine ret_bind (take_nm (by decide) n) (fun x m hx => ?_)
 refine ret_bind (need_rt T (by kernel_rfl) m) (fun _ m2 h2 => ?_)
 refine ret_bind (take_nm (by decide) m2) (fun y m3 hy => ?_)
 refine ret_bind (need_rt T (by kernel_rfl) m3) (fun _ m4 h4 => ?_)
 refine ret_bind (hrec .sig m4 trivial) (fun g m5 hg => ?_)
 refine ret_bind (need_rt T (by kernel_rfl) m5) (fun _ m6 h6 => ?_)
 exact ret_bind (bodyO_rt T hrec m6) (fun l m7 hl => ret_ok (QB.marked (node_nk (ns := [x] ++ [y]) (by decide) (hs.qn (hx.cat (h2.qn hy))) (h4.ql (hg.ql.cat (h6.ql hl))))))
theorem funL_rt (p : Nat) : ∀ (f : Nat) (acc : List Pb) (n : Nat), QL S p acc n → Ret (funL S F rec d f acc n) fun l m => QL S p l m := by
 intro f
 induction f with
 | zero => intro acc n _; exact ret_dry
 | succ f ih =>
  intro acc n h
  unfold funL
  exact ret_if (fun _ => ret_bind (atomicPatO_rt T hrec n) (fun b m hb => ih _ _ (h.cat hb.ql))) (fun _ => ret_ok h)
theorem functionO_rt (n : Nat) : Ret (functionO S F rec d n) fun b m => QB S n b m := by
 unfold functionO
 refine ret_bind (value_rt T n) (fun x m hx => ?_)
 refine ret_bind (atomicPatO_rt T hrec m) (fun b m2 hb => ?_)
 refine ret_bind (funL_rt T hrec m F [b] m2 hb.ql) (fun l m3 hl => ?_)
 refine ret_bind (need_rt T (by kernel_rfl) m3) (fun _ m4 h4 => ?_)
 exact ret_bind (hrec .exp m4 trivial) (fun e m5 he => ret_ok (node_nk (by decide) hx (hl.cat (h4.ql he.ql))))
theorem localO_rt {fr n : Nat} (hs : Skip S fr n) (a : Nat) : Ret (localO S F rec d fr a n) fun b m => QB S fr b m := by
 unfold localO
 refine ret_bind (withinO_rt T hrec a n) (fun x m hx => ?_)
 refine ret_bind (need_rt T (by kernel_rfl) m) (fun _ m2 h2 => ?_)
 refine ret_bind (withinO_rt T hrec a m2) (fun y m3 hy => ?_)
 exact ret_bind (need_rt T (by kernel_rfl) m3) (fun _ m4 h4 => ret_ok (node_ks (by decide) ((hs.ql hx.ql).cat (h2.ql (hy.ql.skip h4)))))
theorem decB_rt (a n : Nat) (hl : declares S a n = true) : Ret (decB S F rec d a n) fun b m => QB S n b m := by
 unfold decB
 refine ret_if (fun h => ?_) (fun q1 => ret_if (fun h => ?_) (fun q2 => ret_if (fun h => ?_) (fun q3 => ret_if (fun h => ?_) (fun q4 => ret_if (fun h => ?_) (fun q5 => ret_if (fun h => ?_) (fun q6 => ret_if (fun h => ?_) (fun q7 => ret_if (fun h => ?_) (fun q8 => ?_))))))))
 ·refine ret_bind (hrec .pat (n + 1) trivial) (fun p m hp => ?_)
  refine ret_bind (need_rt T (by kernel_rfl) m) (fun _ m2 h2 => ?_)
  exact ret_bind (hrec .exp m2 trivial) (fun e m3 he => ret_ok (node_ks (by decide) (((skip_is T (by kernel_rfl) h).ql hp.ql).cat (h2.ql he.ql))))
 ·exact ret_bind (rowO_rt T F (by kernel_rfl) (functionO_rt T hrec) (n + 1)) (fun l m hl => ret_ok (node_ks (by decide) ((skip_is T (by kernel_rfl) h).ql hl)))
 ·refine ret_bind (typeNameO_rt T (n + 1)) (fun x m hx => ?_)
  refine ret_bind (need_rt T (by kernel_rfl) m) (fun _ m2 h2 => ?_)
  exact ret_bind (hrec .ty m2 trivial) (fun b m3 hb => ret_ok (node_nk (by decide) ((skip_is T (by kernel_rfl) h).qn hx) (h2.ql hb.ql)))
 ·exact datatypesO_rt T hrec (skip_is T (by kernel_rfl) h)
 ·exact structureO_rt T hrec (skip_is T (by kernel_rfl) h)
 ·refine ret_bind (take_nm (by decide) (n + 1)) (fun x m hx => ?_)
  refine ret_bind (need_rt T (by kernel_rfl) m) (fun _ m2 h2 => ?_)
  exact ret_bind (hrec .sig m2 trivial) (fun b m3 hb => ret_ok (node_nk (by decide) ((skip_is T (by kernel_rfl) h).qn hx) (h2.ql hb.ql)))
 ·exact functorO_rt T hrec (skip_is T (by kernel_rfl) h)
 ·exact ret_bind (path_rt T (by decide) (n + 1)) (fun p m hp => ret_ok (node_ns (by decide) ((skip_is T (by kernel_rfl) h).qn hp)))
 ·refine localO_rt T hrec (skip_is T (t := [108, 111, 99, 97, 108]) (by kernel_rfl) ?_) a
  unfold declares at hl
  simp only [q1, q2, q3, q4, q5, q6, q7, q8, Bool.or_self, Bool.false_or, cond_false] at hl
  exact hl
theorem decO_rt (a n : Nat) : Ret (decO S F rec d a n) fun b m => QB S n b m := by
 unfold decO
 exact ret_if (fun h => decB_rt T hrec a n h) (fun _ => ret_form)
end

theorem parts_rt : ∀ (f : Nat) (nt : Nt) (d n : Nat), S.may nt n → Ret (parts S f nt d n) fun b m => QB S n b m := by
 intro f
 induction f with
 | zero => intro nt d n _; exact ret_dry
 | succ f ih =>
  intro nt d n hm
  unfold parts
  refine ret_if (fun _ => ret_deep) (fun _ => ?_)
  have hrec : ∀ nt k, S.may nt k → Ret (parts S f nt (d + 1) k) fun b m => QB S k b m := fun nt k hk => ih nt (d + 1) k hk
  cases nt with
  | exp => exact expO_rt T hrec n
  | pat => exact patO_rt T hrec n
  | ty => exact tyO_rt T hrec n
  | sig => exact sigO_rt T hrec n
  | str => exact strO_rt T hrec n
  | dec a => exact decO_rt T hrec a n
theorem fileO_rt (F : Nat) : Ret (fileO S F 0) fun b m => QB S 0 b m := by
 unfold fileO
 exact ret_bind (decsO_rt T (F := F) (rec := parts S F) (d := 0) (fun nt k hk => parts_rt T F nt 0 k hk) 2 0) (fun l m hl => ret_ok (node_ks (by decide) hl))
end
end Go.Proofs.YtkjgkchdkeggoaaGreatDoor

namespace Go.Proofs.YtkjgkchdkeggoaaGreatDoor
open Go.RowKit
set_option maxRecDepth 20000
set_option linter.unusedVariables false
set_option linter.unusedSimpArgs false

mutual
/-- A branch, all its parts and all their names. -/
def Pb.wt : Pb → Nat
 | .mk _ _ _ _ ns ks => 1 + ns.length + wtL ks
def wtL : List Pb → Nat
 | [] => 0
 | b :: r => b.wt + wtL r
end
theorem wtL_append (a b : List Pb) : wtL (a ++ b) = wtL a + wtL b := by
 induction a with
 | nil => simp [wtL]
 | cons y r ih => simp [wtL, ih]; omega
theorem wt_node (k : Int) (f t : Nat) (ns : List Nat) (l : List Pb) : (node k f t ns l).wt = 1 + ns.length + wtL l := by
 simp [node, Pb.wt]
theorem wt_marked (m : Int) (b : Pb) : (marked m b).wt = b.wt := by
 cases b; simp [marked, Pb.wt]
theorem oneOr_wt {l : List Pb} {k : Int} {f t : Nat} {ns : List Nat} {n m : Nat} (h : wtL l + l.length + ns.length + 3 * n ≤ 3 * m) (h1 : 1 ≤ l.length) : (oneOr l k f t ns).wt + 1 + 3 * n ≤ 3 * m := by
 unfold oneOr
 split
 ·simp [wtL] at h; omega
 ·next hne =>
  rw [wt_node]
  match l, hne, h1 with
  | a :: b :: r, _, _ => simp only [List.length_cons] at h ⊢; omega
  | [a], hne, _ => exact absurd rfl (hne a)
section
variable {S : Src}
theorem need_wt {t : List UInt8} (n : Nat) : Ret (S.need t n) fun _ m => m = n + 1 := by
 unfold Src.need
 exact ret_if (fun h => ret_ok rfl) (fun _ => ret_form)
theorem take_wt {ks : List Int} (n : Nat) : Ret (S.take ks n) fun x m => m = n + 1 := by
 unfold Src.take
 exact ret_if (fun h => ret_ok rfl) (fun _ => ret_form)
theorem pathL_wt {ks : List Int} (p : Nat) : ∀ (f : Nat) (acc : List Nat) (n : Nat), 1 ≤ acc.length → acc.length + p ≤ n → Ret (S.pathL ks f acc n) fun l m => 1 ≤ l.length ∧ l.length + p ≤ m := by
 intro f
 induction f with
 | zero => intro acc n _ _; exact ret_dry
 | succ f ih =>
  intro acc n h0 h
  unfold Src.pathL
  refine ret_if (fun hc => ?_) (fun _ => ret_ok ⟨h0, h⟩)
  exact ret_bind (take_wt (n + 1)) (fun x m hx => ih _ _ (by simp) (by simp; omega))
theorem path_wt {ks : List Int} (n : Nat) : Ret (S.path ks n) fun l m => 1 ≤ l.length ∧ l.length + n ≤ m := by
 unfold Src.path
 exact ret_bind (take_wt n) (fun x m hx => pathL_wt n _ _ _ (by simp) (by simp; omega))
theorem typePath_wt (n : Nat) : Ret (S.typePath n) fun l m => 1 ≤ l.length ∧ l.length + n ≤ m := by
 unfold Src.typePath
 exact ret_bind (path_wt n) (fun p m hp => ret_if (fun _ => ret_ok hp) (fun _ => ret_form))
theorem value_wt (n : Nat) : Ret (S.value n) fun x m => n + 1 ≤ m := by
 unfold Src.value
 refine ret_if (fun h => ?_) (fun _ => (take_wt n).mono fun x m hx => by omega)
 exact (take_wt (n + 1)).mono fun x m hx => by omega
theorem rowL_wt {mark : List UInt8} {read : Nat → Out Pb} (hr : ∀ k, Ret (read k) fun b m => b.wt + 1 + 3 * k ≤ 3 * m) (p : Nat) : ∀ (f : Nat) (acc : List Pb) (n : Nat), 1 ≤ acc.length → wtL acc + acc.length + 3 * p ≤ 3 * n → Ret (rowL S mark read f acc n) fun l m => 1 ≤ l.length ∧ wtL l + l.length + 3 * p ≤ 3 * m := by
 intro f
 induction f with
 | zero => intro acc n _ _; exact ret_dry
 | succ f ih =>
  intro acc n h0 h
  unfold rowL
  refine ret_if (fun hc => ?_) (fun _ => ret_ok ⟨h0, h⟩)
  exact ret_bind (hr (n + 1)) (fun b m hb => ih _ _ (by simp) (by simp only [wtL_append, wtL, List.length_append, List.length_singleton]; omega))
theorem rowO_wt (F : Nat) {mark : List UInt8} {read : Nat → Out Pb} (hr : ∀ k, Ret (read k) fun b m => b.wt + 1 + 3 * k ≤ 3 * m) (n : Nat) : Ret (rowO S F mark read n) fun l m => 1 ≤ l.length ∧ wtL l + l.length + 3 * n ≤ 3 * m := by
 unfold rowO
 exact ret_bind (hr n) (fun b m hb => rowL_wt hr n F [b] m (by simp) (by simp [wtL]; omega))
section
variable {F : Nat} {rec : Nt → Nat → Nat → Out Pb} {d : Nat} (hrec : ∀ nt k, S.may nt k → Ret (rec nt d k) fun b m => b.wt + 1 + 3 * k ≤ 3 * m)
include hrec
theorem atomicTyO_wt (n : Nat) : Ret (atomicTyO S F rec d n) fun b m => b.wt + 1 + 3 * n ≤ 3 * m := by
 unfold atomicTyO
 refine ret_if (fun h => ret_ok (by simp [wt_node, wtL]; omega)) (fun _ => ret_if (fun h => ?_) (fun _ => ?_))
 ·refine ret_bind (rowO_wt F (fun k => hrec .ty k trivial) (n + 1)) (fun l m hl => ?_)
  refine ret_bind (need_wt m) (fun _ m2 h2 => ?_)
  unfold pick1
  split
  ·exact ret_ok (by simp only [wtL, List.length_singleton] at hl; omega)
  ·exact ret_bind (typePath_wt m2) (fun p m3 hp => ret_ok (by rw [wt_node]; omega))
 ·exact ret_bind (typePath_wt n) (fun p m3 hp => ret_ok (by simp only [wt_node, wtL]; omega))
theorem appliedL_wt (n : Nat) : ∀ (f : Nat) (b : Pb) (m : Nat), b.wt + 1 + 3 * n ≤ 3 * m → Ret (appliedL S n f b m) fun b m => b.wt + 1 + 3 * n ≤ 3 * m := by
 have _ := hrec
 intro f
 induction f with
 | zero => intro b m _; exact ret_dry
 | succ f ih =>
  intro b m h
  unfold appliedL
  exact ret_if (fun _ => ret_bind (typePath_wt m) (fun p m1 hp => ih _ _ (by simp only [wt_node, wtL]; omega))) (fun _ => ret_ok h)
theorem appliedO_wt (n : Nat) : Ret (appliedO S F rec d n) fun b m => b.wt + 1 + 3 * n ≤ 3 * m := by
 unfold appliedO
 exact ret_bind (atomicTyO_wt hrec n) (fun b m hb => appliedL_wt hrec n F b m hb)
theorem productO_wt (n : Nat) : Ret (productO S F rec d n) fun b m => b.wt + 1 + 3 * n ≤ 3 * m := by
 unfold productO
 exact ret_bind (rowO_wt F (appliedO_wt hrec) n) (fun l m hl => ret_ok (oneOr_wt (by simpa using hl.2) hl.1))
theorem tyO_wt (n : Nat) : Ret (tyO S F rec d n) fun b m => b.wt + 1 + 3 * n ≤ 3 * m := by
 unfold tyO
 refine ret_bind (productO_wt hrec n) (fun b m hb => ret_if (fun h => ?_) (fun _ => ret_ok hb))
 exact ret_bind (hrec .ty (m + 1) trivial) (fun c m2 hc => ret_ok (by simp only [wt_node, wtL, List.length_nil]; omega))
omit hrec in
theorem tupleO_wt {fr n : Nat} (hs : fr + 1 ≤ n) {member : Nat → Out Pb} (hm : ∀ k, Ret (member k) fun b m => b.wt + 1 + 3 * k ≤ 3 * m) : Ret (tupleO S F fr member n) fun b m => b.wt + 1 + 3 * fr ≤ 3 * m := by
 unfold tupleO
 refine ret_if (fun h => ret_ok (by simp only [wt_node, wtL, List.length_nil]; omega)) (fun _ => ?_)
 refine ret_bind (rowO_wt F hm n) (fun l m hl => ?_)
 exact ret_bind (need_wt m) (fun _ m2 h2 => ret_ok (oneOr_wt (by simp only [List.length_nil]; omega) hl.1))
omit hrec in
theorem plainO_wt {named : Int} {member : Nat → Out Pb} (hm : ∀ k, Ret (member k) fun b m => b.wt + 1 + 3 * k ≤ 3 * m) (n : Nat) : Ret (plainO S F named member n) fun b m => b.wt + 1 + 3 * n ≤ 3 * m := by
 unfold plainO
 refine ret_if (fun h => ret_ok (by simp only [wt_node, wtL, List.length_nil]; omega)) (fun _ => ret_if (fun h => ret_ok (by simp only [wt_node, wtL, List.length_nil]; omega)) (fun _ => ret_if (fun h => ?_) (fun _ => ?_)))
 ·exact tupleO_wt (by omega) hm
 ·exact ret_bind (value_wt n) (fun x m hx => ret_ok (by simp only [wt_node, wtL, List.length_singleton]; omega))
theorem atomicPatO_wt (n : Nat) : Ret (atomicPatO S F rec d n) fun b m => b.wt + 1 + 3 * n ≤ 3 * m := by
 unfold atomicPatO
 refine ret_if (fun h => ret_ok (by simp only [wt_node, wtL, List.length_nil]; omega)) (fun _ => ret_if (fun _ => ?_) (fun _ => plainO_wt (fun k => hrec .pat k trivial) n))
 exact ret_bind (path_wt n) (fun p m hp => ret_ok (by simp only [wt_node, wtL]; omega))
theorem patO_wt (n : Nat) : Ret (patO S F rec d n) fun b m => b.wt + 1 + 3 * n ≤ 3 * m := by
 unfold patO
 refine ret_if (fun h => ?_) (fun _ => ret_if (fun _ => ?_) (fun _ => atomicPatO_wt hrec n))
 ·exact ret_bind (hrec .pat (n + 2) trivial) (fun b m hb => ret_ok (by simp only [wt_node, wtL, List.length_singleton]; omega))
 ·refine ret_bind (path_wt n) (fun p m hp => ret_if (fun _ => ?_) (fun _ => ret_ok (by simp only [wt_node, wtL]; omega)))
  exact ret_bind (atomicPatO_wt hrec m) (fun b m2 hb => ret_ok (by simp only [wt_node, wtL]; omega))
theorem decsL_wt (a p : Nat) : ∀ (f : Nat) (acc : List Pb) (n : Nat), wtL acc + acc.length + 3 * p ≤ 3 * n → Ret (decsL S rec d a f acc n) fun l m => wtL l + l.length + 3 * p ≤ 3 * m := by
 intro f
 induction f with
 | zero => intro acc n _; exact ret_dry
 | succ f ih =>
  intro acc n h
  unfold decsL
  refine ret_if (fun hc => ih _ _ (by omega)) (fun _ => ret_if (fun hd => ?_) (fun _ => ret_ok h))
  exact ret_bind (hrec (.dec a) n hd) (fun b m hb => ih _ _ (by simp only [wtL_append, wtL, List.length_append, List.length_singleton]; omega))
theorem decsO_wt (a n : Nat) : Ret (decsO S F rec d a n) fun l m => wtL l + l.length + 3 * n ≤ 3 * m := decsL_wt hrec a n F [] n (by simp [wtL])
theorem withinO_wt (a n : Nat) : Ret (withinO S F rec d a n) fun b m => b.wt + 3 * n ≤ 3 * m + 1 := by
 unfold withinO
 exact ret_bind (decsO_wt hrec a n) (fun l m hl => ret_ok (by simp only [wt_node, List.length_nil]; omega))
theorem atomO_wt (n : Nat) : Ret (atomO S F rec d n) fun b m => b.wt + 1 + 3 * n ≤ 3 * m := by
 unfold atomO
 refine ret_if (fun _ => ?_) (fun _ => ret_if (fun h => ?_) (fun _ => plainO_wt (fun k => hrec .exp k trivial) n))
 ·exact ret_bind (path_wt n) (fun p m hp => ret_if (fun _ => ret_ok (by simp only [wt_node, wtL]; omega)) (fun _ => ret_ok (by simp only [wt_node, wtL]; omega)))
 ·refine ret_bind (withinO_wt hrec 0 (n + 1)) (fun ds m hd => ?_)
  refine ret_bind (need_wt m) (fun _ m2 h2 => ?_)
  refine ret_bind (hrec .exp m2 trivial) (fun e m3 he => ?_)
  exact ret_bind (need_wt m3) (fun _ m4 h4 => ret_ok (by simp only [wt_node, wtL, List.length_nil]; omega))
theorem callL_wt (p : Nat) : ∀ (f : Nat) (acc : List Pb) (n : Nat), 1 ≤ acc.length → wtL acc + acc.length + 3 * p ≤ 3 * n → Ret (callL S F rec d f acc n) fun l m => 1 ≤ l.length ∧ wtL l + l.length + 3 * p ≤ 3 * m := by
 intro f
 induction f with
 | zero => intro acc n _ _; exact ret_dry
 | succ f ih =>
  intro acc n h0 h
  unfold callL
  exact ret_if (fun _ => ret_bind (atomO_wt hrec n) (fun b m hb => ih _ _ (by simp) (by simp only [wtL_append, wtL, List.length_append, List.length_singleton]; omega))) (fun _ => ret_ok ⟨h0, h⟩)
theorem callO_wt (n : Nat) : Ret (callO S F rec d n) fun b m => b.wt + 1 + 3 * n ≤ 3 * m := by
 unfold callO
 refine ret_bind (atomO_wt hrec n) (fun b m hb => ?_)
 exact ret_bind (callL_wt hrec n F [b] m (by simp) (by simp [wtL]; omega)) (fun l m2 hl => ret_ok (oneOr_wt (by simpa using hl.2) hl.1))
theorem infixL_wt (p : Nat) : ∀ (f : Nat) (sg : List Nat) (acc : List Pb) (n : Nat), 1 ≤ acc.length → wtL acc + acc.length + sg.length + 3 * p ≤ 3 * n → Ret (infixL S F rec d f sg acc n) fun l m => 1 ≤ l.2.length ∧ wtL l.2 + l.2.length + l.1.length + 3 * p ≤ 3 * m := by
 intro f
 induction f with
 | zero => intro sg acc n _ _; exact ret_dry
 | succ f ih =>
  intro sg acc n h0 h
  unfold infixL
  refine ret_if (fun _ => ?_) (fun _ => ret_ok ⟨h0, h⟩)
  exact ret_bind (take_wt n) (fun x m hx => ret_bind (callO_wt hrec m) (fun b m2 hb => ih _ _ _ (by simp) (by simp only [wtL_append, wtL, List.length_append, List.length_singleton]; omega)))
theorem infixO_wt (n : Nat) : Ret (infixO S F rec d n) fun b m => b.wt + 1 + 3 * n ≤ 3 * m := by
 unfold infixO
 refine ret_bind (callO_wt hrec n) (fun b m hb => ?_)
 exact ret_bind (infixL_wt hrec n F [] [b] m (by simp) (by simp [wtL]; omega)) (fun l m2 hl => ret_ok (oneOr_wt hl.2 hl.1))
theorem clauseO_wt {k : Int} {fr n : Nat} (hs : fr ≤ n) : Ret (clauseO S rec d k fr n) fun b m => b.wt + 1 + 3 * fr ≤ 3 * m := by
 unfold clauseO
 refine ret_bind (hrec .pat n trivial) (fun p m hp => ?_)
 refine ret_bind (need_wt m) (fun _ m2 h2 => ?_)
 exact ret_bind (hrec .exp m2 trivial) (fun e m3 he => ret_ok (by simp only [wt_node, wtL, List.length_nil]; omega))
theorem armO_wt (n : Nat) : Ret (armO S rec d n) fun b m => b.wt + 1 + 3 * n ≤ 3 * m := clauseO_wt hrec (Nat.le_refl _)
theorem expO_wt (n : Nat) : Ret (expO S F rec d n) fun b m => b.wt + 1 + 3 * n ≤ 3 * m := by
 unfold expO
 refine ret_if (fun h => ?_) (fun _ => ret_if (fun h => ?_) (fun _ => ret_if (fun h => ?_) (fun _ => infixO_wt hrec n)))
 ·refine ret_bind (hrec .exp (n + 1) trivial) (fun a m ha => ?_)
  refine ret_bind (need_wt m) (fun _ m2 h2 => ?_)
  refine ret_bind (hrec .exp m2 trivial) (fun b m3 hb => ?_)
  refine ret_bind (need_wt m3) (fun _ m4 h4 => ?_)
  exact ret_bind (hrec .exp m4 trivial) (fun c m5 hc => ret_ok (by simp only [wt_node, wtL, List.length_nil]; omega))
 ·refine ret_bind (hrec .exp (n + 1) trivial) (fun a m ha => ?_)
  refine ret_bind (need_wt m) (fun _ m2 h2 => ?_)
  exact ret_bind (rowO_wt F (armO_wt hrec) m2) (fun l m3 hl => ret_ok (by simp only [wt_node, wtL_append, wtL, List.length_nil]; omega))
 ·exact clauseO_wt hrec (by omega)
omit hrec in
theorem varsL_wt : ∀ (f n : Nat), Ret (varsL S f n) fun _ m => n ≤ m := by
 intro f
 induction f with
 | zero => intro n; exact ret_dry
 | succ f ih =>
  intro n
  unfold varsL
  exact ret_if (fun hc => ret_bind (take_wt (n + 1)) (fun _ m hm => (ih m).mono fun _ m2 h => by omega)) (fun _ => ret_ok (Nat.le_refl _))
omit hrec in
theorem typeNameO_wt (n : Nat) : Ret (typeNameO S F n) fun x m => n + 1 ≤ m := by
 unfold typeNameO
 refine ret_if (fun h => ?_) (fun _ => ret_if (fun h => ?_) (fun _ => (take_wt n).mono fun x m hx => by omega))
 ·exact (take_wt (n + 1)).mono fun x m hx => by omega
 ·refine ret_bind (take_wt (n + 1)) (fun _ m hm => ?_)
  refine ret_bind (varsL_wt F m) (fun _ m2 h2 => ?_)
  refine ret_bind (need_wt m2) (fun _ m3 h3 => ?_)
  exact (take_wt m3).mono fun x m hx => by omega
theorem conO_wt (n : Nat) : Ret (conO S rec d n) fun b m => b.wt + 1 + 3 * n ≤ 3 * m := by
 unfold conO
 refine ret_bind (take_wt n) (fun x m hx => ret_if (fun h => ?_) (fun _ => ret_ok (by simp only [wt_node, wtL, List.length_singleton]; omega)))
 exact ret_bind (hrec .ty (m + 1) trivial) (fun b m2 hb => ret_ok (by simp only [wt_node, wtL, List.length_singleton]; omega))
theorem dbindO_wt (n : Nat) : Ret (dbindO S F rec d n) fun b m => b.wt + 1 + 3 * n ≤ 3 * m := by
 unfold dbindO
 refine ret_bind (typeNameO_wt n) (fun x m hx => ?_)
 refine ret_bind (need_wt m) (fun _ m2 h2 => ?_)
 exact ret_bind (rowO_wt F (conO_wt hrec) m2) (fun l m3 hl => ret_ok (by simp only [wt_node, List.length_singleton]; omega))
theorem datatypesO_wt {fr n : Nat} (hs : fr + 1 ≤ n) : Ret (datatypesO S F rec d fr n) fun b m => b.wt + 1 + 3 * fr ≤ 3 * m := by
 unfold datatypesO
 exact ret_bind (rowO_wt F (dbindO_wt hrec) n) (fun l m hl => ret_ok (by simp only [wt_node, List.length_nil]; omega))
theorem specO_wt (n : Nat) : Ret (specO S F rec d n) fun b m => b.wt + 1 + 3 * n ≤ 3 * m := by
 unfold specO
 refine ret_if (fun h => ?_) (fun _ => ret_if (fun h => ?_) (fun _ => ret_if (fun h => ?_) (fun _ => ret_if (fun h => ?_) (fun _ => ?_))))
 ·refine ret_bind (value_wt (n + 1)) (fun x m hx => ?_)
  refine ret_bind (need_wt m) (fun _ m2 h2 => ?_)
  exact ret_bind (hrec .ty m2 trivial) (fun b m3 hb => ret_ok (by simp only [wt_node, wtL, List.length_singleton]; omega))
 ·refine ret_bind (typeNameO_wt (n + 1)) (fun x m hx => ret_if (fun h2 => ?_) (fun _ => ret_ok (by simp only [wt_node, wtL, List.length_singleton]; omega)))
  exact ret_bind (hrec .ty (m + 1) trivial) (fun b m3 hb => ret_ok (by simp only [wt_node, wtL, List.length_singleton]; omega))
 ·exact datatypesO_wt hrec (by omega)
 ·refine ret_bind (take_wt (n + 1)) (fun x m hx => ?_)
  refine ret_bind (need_wt m) (fun _ m2 h2 => ?_)
  exact ret_bind (hrec .sig m2 trivial) (fun b m3 hb => ret_ok (by simp only [wt_node, wtL, List.length_singleton]; omega))
 ·refine ret_bind (need_wt n) (fun _ m2 h2 => ?_)
  exact ret_bind (hrec .sig m2 trivial) (fun b m3 hb => ret_ok (by simp only [wt_node, wtL, List.length_nil]; omega))
theorem specsL_wt (p : Nat) : ∀ (f : Nat) (acc : List Pb) (n : Nat), wtL acc + acc.length + 3 * p ≤ 3 * n → Ret (specsL S F rec d f acc n) fun l m => wtL l + l.length + 3 * p ≤ 3 * m := by
 intro f
 induction f with
 | zero => intro acc n _; exact ret_dry
 | succ f ih =>
  intro acc n h
  unfold specsL
  refine ret_if (fun hc => ret_ok (by omega)) (fun _ => ret_if (fun hc => ih _ _ (by omega)) (fun _ => ?_))
  exact ret_bind (specO_wt hrec n) (fun b m hb => ih _ _ (by simp only [wtL_append, wtL, List.length_append, List.length_singleton]; omega))
theorem bareSigO_wt (n : Nat) : Ret (bareSigO S F rec d n) fun b m => b.wt + 1 + 3 * n ≤ 3 * m := by
 unfold bareSigO
 refine ret_if (fun h => ?_) (fun _ => ret_bind (take_wt n) (fun x m hx => ret_ok (by simp only [wt_node, wtL, List.length_singleton]; omega)))
 exact ret_bind (specsL_wt hrec (n + 1) F [] (n + 1) (by simp [wtL])) (fun l m hl => ret_ok (by simp only [wt_node, List.length_nil]; omega))
theorem whereL_wt (p : Nat) : ∀ (f : Nat) (b : Pb) (n : Nat), b.wt + 1 + 3 * p ≤ 3 * n → Ret (whereL S rec d p f b n) fun b m => b.wt + 1 + 3 * p ≤ 3 * m := by
 intro f
 induction f with
 | zero => intro b n _; exact ret_dry
 | succ f ih =>
  intro b n h
  unfold whereL
  refine ret_if (fun hc => ?_) (fun _ => ret_ok h)
  refine ret_bind (need_wt (n + 1)) (fun _ m h1 => ?_)
  refine ret_bind (typePath_wt m) (fun p m2 hp => ?_)
  refine ret_bind (need_wt m2) (fun _ m3 h3 => ?_)
  exact ret_bind (hrec .ty m3 trivial) (fun c m4 hb => ih _ _ (by simp only [wt_node, wtL]; omega))
theorem sigO_wt (n : Nat) : Ret (sigO S F rec d n) fun b m => b.wt + 1 + 3 * n ≤ 3 * m := by
 unfold sigO
 exact ret_bind (bareSigO_wt hrec n) (fun b m hb => whereL_wt hrec n F b m hb)
theorem bareStrO_wt (n : Nat) : Ret (bareStrO S F rec d n) fun b m => b.wt + 1 + 3 * n ≤ 3 * m := by
 unfold bareStrO
 refine ret_if (fun h => ?_) (fun _ => ret_if (fun h => ?_) (fun _ => ret_bind (path_wt n) (fun p m hp => ret_ok (by simp only [wt_node, wtL]; omega))))
 ·refine ret_bind (decsO_wt hrec 1 (n + 1)) (fun l m hl => ?_)
  exact ret_bind (need_wt m) (fun _ m2 h2 => ret_ok (by simp only [wt_node, List.length_nil]; omega))
 ·refine ret_bind (hrec .str (n + 2) trivial) (fun b m hb => ?_)
  exact ret_bind (need_wt m) (fun _ m2 h2 => ret_ok (by simp only [wt_node, wtL, List.length_singleton]; omega))
theorem sealL_wt (p : Nat) : ∀ (f : Nat) (b : Pb) (n : Nat), b.wt + 1 + 3 * p ≤ 3 * n → Ret (sealL S rec d p f b n) fun b m => b.wt + 1 + 3 * p ≤ 3 * m := by
 intro f
 induction f with
 | zero => intro b n _; exact ret_dry
 | succ f ih =>
  intro b n h
  unfold sealL
  refine ret_if (fun _ => ret_ok h) (fun hc => ?_)
  exact ret_bind (hrec .sig (n + 1) trivial) (fun s m hs => ih _ _ (by simp only [wt_marked, wt_node, wtL, List.length_nil]; omega))
theorem strO_wt (n : Nat) : Ret (strO S F rec d n) fun b m => b.wt + 1 + 3 * n ≤ 3 * m := by
 unfold strO
 exact ret_bind (bareStrO_wt hrec n) (fun b m hb => sealL_wt hrec n F b m hb)
theorem bodyO_wt (n : Nat) : Ret (bodyO S rec d n) fun l m => wtL l.2 + l.2.length + 3 * n ≤ 3 * m := by
 unfold bodyO
 refine ret_bind (P := fun l m => wtL l + l.length + 3 * n ≤ 3 * m) (ret_if (fun _ => ret_ok (by simp [wtL])) (fun hc => ?_)) (fun l m hl => ?_)
 ·exact ret_bind (hrec .sig (n + 1) trivial) (fun s m hs => ret_ok (by simp only [wtL, List.length_singleton]; omega))
 ·refine ret_bind (need_wt m) (fun _ m2 h2 => ?_)
  exact ret_bind (hrec .str m2 trivial) (fun b m3 hb => ret_ok (by simp only [wtL_append, wtL, List.length_append, List.length_singleton]; omega))
theorem structureO_wt {fr n : Nat} (hs : fr + 1 ≤ n) : Ret (structureO S rec d fr n) fun b m => b.wt + 1 + 3 * fr ≤ 3 * m := by
 unfold structureO
 refine ret_bind (take_wt n) (fun x m hx => ?_)
 exact ret_bind (bodyO_wt hrec m) (fun l m2 hl => ret_ok (by simp only [wt_marked, wt_node, List.length_singleton]; omega))
theorem functorO_wt {fr n : Nat} (hs : fr + 1 ≤ n) : Ret (functorO S rec d fr n) fun b m => b.wt + 1 + 3 * fr ≤ 3 * m := by
 unfold functorO
 refine ret_bind (take_wt n) (fun x m hx => ?_)
 refine ret_bind (need_wt m) (fun _ m2 h2 => ?_)
 refine ret_bind (take_wt m2) (fun y m3 hy => ?_)
 refine ret_bind (need_wt m3) (fun _ m4 h4 => ?_)
 refine ret_bind (hrec .sig m4 trivial) (fun g m5 hg => ?_)
 refine ret_bind (need_wt m5) (fun _ m6 h6 => ?_)
 exact ret_bind (bodyO_wt hrec m6) (fun l m7 hl => ret_ok (by simp only [wt_marked, wt_node, wtL_append, wtL, List.length_cons, List.length_nil]; omega))
theorem funL_wt (p : Nat) : ∀ (f : Nat) (acc : List Pb) (n : Nat), wtL acc + acc.length + 3 * p ≤ 3 * n → Ret (funL S F rec d f acc n) fun l m => wtL l + l.length + 3 * p ≤ 3 * m := by
 intro f
 induction f with
 | zero => intro acc n _; exact ret_dry
 | succ f ih =>
  intro acc n h
  unfold funL
  exact ret_if (fun _ => ret_bind (atomicPatO_wt hrec n) (fun b m hb => ih _ _ (by simp only [wtL_append, wtL, List.length_append, List.length_singleton]; omega))) (fun _ => ret_ok h)
theorem functionO_wt (n : Nat) : Ret (functionO S F rec d n) fun b m => b.wt + 1 + 3 * n ≤ 3 * m := by
 unfold functionO
 refine ret_bind (value_wt n) (fun x m hx => ?_)
 refine ret_bind (atomicPatO_wt hrec m) (fun b m2 hb => ?_)
 refine ret_bind (funL_wt hrec m F [b] m2 (by simp [wtL]; omega)) (fun l m3 hl => ?_)
 refine ret_bind (need_wt m3) (fun _ m4 h4 => ?_)
 exact ret_bind (hrec .exp m4 trivial) (fun e m5 he => ret_ok (by simp only [wt_node, wtL_append, wtL, List.length_singleton]; omega))
theorem localO_wt {fr n : Nat} (hs : fr + 1 ≤ n) (a : Nat) : Ret (localO S F rec d fr a n) fun b m => b.wt + 1 + 3 * fr ≤ 3 * m := by
 unfold localO
 refine ret_bind (withinO_wt hrec a n) (fun x m hx => ?_)
 refine ret_bind (need_wt m) (fun _ m2 h2 => ?_)
 refine ret_bind (withinO_wt hrec a m2) (fun y m3 hy => ?_)
 exact ret_bind (need_wt m3) (fun _ m4 h4 => ret_ok (by simp only [wt_node, wtL, List.length_nil]; omega))
theorem decB_wt (a n : Nat) : Ret (decB S F rec d a n) fun b m => b.wt + 1 + 3 * n ≤ 3 * m := by
 unfold decB
 refine ret_if (fun h => ?_) (fun q1 => ret_if (fun h => ?_) (fun q2 => ret_if (fun h => ?_) (fun q3 => ret_if (fun h => ?_) (fun q4 => ret_if (fun h => ?_) (fun q5 => ret_if (fun h => ?_) (fun q6 => ret_if (fun h => ?_) (fun q7 => ret_if (fun h => ?_) (fun q8 => ?_))))))))
 ·refine ret_bind (hrec .pat (n + 1) trivial) (fun p m hp => ?_)
  refine ret_bind (need_wt m) (fun _ m2 h2 => ?_)
  exact ret_bind (hrec .exp m2 trivial) (fun e m3 he => ret_ok (by simp only [wt_node, wtL, List.length_nil]; omega))
 ·exact ret_bind (rowO_wt F (functionO_wt hrec) (n + 1)) (fun l m hl => ret_ok (by simp only [wt_node, List.length_nil]; omega))
 ·refine ret_bind (typeNameO_wt (n + 1)) (fun x m hx => ?_)
  refine ret_bind (need_wt m) (fun _ m2 h2 => ?_)
  exact ret_bind (hrec .ty m2 trivial) (fun b m3 hb => ret_ok (by simp only [wt_node, wtL, List.length_singleton]; omega))
 ·exact datatypesO_wt hrec (by omega)
 ·exact structureO_wt hrec (by omega)
 ·refine ret_bind (take_wt (n + 1)) (fun x m hx => ?_)
  refine ret_bind (need_wt m) (fun _ m2 h2 => ?_)
  exact ret_bind (hrec .sig m2 trivial) (fun b m3 hb => ret_ok (by simp only [wt_node, wtL, List.length_singleton]; omega))
 ·exact functorO_wt hrec (by omega)
 ·exact ret_bind (path_wt (n + 1)) (fun p m hp => ret_ok (by simp only [wt_node, wtL]; omega))
 ·exact localO_wt hrec (by omega) a
theorem decO_wt (a n : Nat) : Ret (decO S F rec d a n) fun b m => b.wt + 1 + 3 * n ≤ 3 * m := by
 unfold decO
 exact ret_if (fun _ => decB_wt hrec a n) (fun _ => ret_form)
end

theorem parts_wt : ∀ (f : Nat) (nt : Nt) (d n : Nat), S.may nt n → Ret (parts S f nt d n) fun b m => b.wt + 1 + 3 * n ≤ 3 * m := by
 intro f
 induction f with
 | zero => intro nt d n _; exact ret_dry
 | succ f ih =>
  intro nt d n hm
  unfold parts
  refine ret_if (fun _ => ret_deep) (fun _ => ?_)
  have hrec : ∀ nt k, S.may nt k → Ret (parts S f nt (d + 1) k) fun b m => b.wt + 1 + 3 * k ≤ 3 * m := fun nt k hk => ih nt (d + 1) k hk
  cases nt with
  | exp => exact expO_wt hrec n
  | pat => exact patO_wt hrec n
  | ty => exact tyO_wt hrec n
  | sig => exact sigO_wt hrec n
  | str => exact strO_wt hrec n
  | dec a => exact decO_wt hrec a n
theorem fileO_wt (F : Nat) : Ret (fileO S F 0) fun b m => b.wt ≤ 3 * m + 1 := by
 unfold fileO
 exact ret_bind (decsO_wt (F := F) (rec := parts S F) (d := 0) (fun nt k hk => parts_wt F nt 0 k hk) 2 0) (fun l m hl => ret_ok (by simp only [wt_node, List.length_nil]; omega))
end
end Go.Proofs.YtkjgkchdkeggoaaGreatDoor

namespace Go.Proofs.YtkjgkchdkeggoaaGreatDoor
open Go.RowKit
set_option maxRecDepth 20000
set_option linter.unusedVariables false
set_option linter.unusedSimpArgs false

/-- Two lists of numbers compared. -/
def sameI (a b : List Int) : Bool := a == b
theorem sameI_len {a b : List Int} (h : a.length ≠ b.length) : sameI a b = false := by
 unfold sameI; rw [beq_eq_false_iff_ne]; intro e; exact h (by rw [e])
theorem sameI_at {a b : List Int} {k : Nat} (h1 : k < a.length) (h2 : k < b.length) (h : a[k] ≠ b[k]) : sameI a b = false := by
 unfold sameI; rw [beq_eq_false_iff_ne]; intro e; subst e; exact h rfl
theorem sameI_all {a b : List Int} (h : a.length = b.length) (hall : ∀ i (h1 : i < a.length) (h2 : i < b.length), a[i] = b[i]) : sameI a b = true := by
 unfold sameI; rw [beq_iff_eq]; exact List.ext_getElem h hall
mutual
/-- A branch's rows are short, and those of its parts. -/
def Br.Few : Br → Prop
 | .mk h ks => h.ns.length ≤ 1000000 ∧ ks.length ≤ 1000000 ∧ FewAll ks
def FewAll : List Br → Prop
 | [] => True
 | b :: r => b.Few ∧ FewAll r
end
theorem fewAll_iff (ks : List Br) : FewAll ks ↔ ∀ b ∈ ks, b.Few := by
 induction ks with
 | nil => simp [FewAll]
 | cons x r ih => simp [FewAll, ih]
theorem wtL_mem {l : List Pb} {b : Pb} (h : b ∈ l) : b.wt ≤ wtL l := by
 induction l with
 | nil => cases h
 | cons x r ih =>
  simp only [wtL]
  rcases List.mem_cons.1 h with rfl | h
  ·omega
  ·have := ih h; omega
theorem wt_pos (b : Pb) : 1 ≤ b.wt := by cases b; simp only [Pb.wt]; omega
theorem wtL_len (l : List Pb) : l.length ≤ wtL l := by
 induction l with
 | nil => simp
 | cons x r ih => have := wt_pos x; simp only [wtL, List.length_cons]; omega
theorem few_of_wt (y : Br) : y.pb.wt ≤ 1000000 → y.Few := by
 induction y using Br.ind with
 | hP h ks ih =>
  intro hw
  simp only [Br.pb, Pb.wt, pbs_map] at hw
  have h1 := wtL_len (ks.map Br.pb)
  rw [List.length_map] at h1
  simp only [Br.Few, fewAll_iff]
  refine ⟨by omega, by omega, fun b hb => ih b hb ?_⟩
  have := wtL_mem (List.mem_map.2 ⟨b, hb, rfl⟩ : b.pb ∈ ks.map Br.pb)
  omega
/-- The six cells, from a block that holds them. -/
theorem brAt_new (w : World) (h : Hd) (t : TypeId) : BrAt (w.alloc (.cells #[.int .i64 h.k, .int .i64 h.m, .int .i64 h.f, .int .i64 h.t, .slice h.np h.nn h.nc, .slice h.kp h.kn h.kc] t)) w.heap.size 0 h := by
 have hb := heap_alloc_new w (.cells #[.int .i64 h.k, .int .i64 h.m, .int .i64 h.f, .int .i64 h.t, .slice h.np h.nn h.nc, .slice h.kp h.kn h.kc] t)
 refine ⟨?_, ?_, ?_, ?_, ?_, ?_⟩ <;> (rw [Lib.cell_of_heap hb]; rfl)
theorem BrAt.box {w : World} {b : Nat} {h : Hd} (hat : BrAt w b 0 h) : w.cell? ⟨b, 0, none⟩ = some (.int .i64 h.k) ∧ w.cell? ⟨b, 1, none⟩ = some (.int .i64 h.m) ∧ w.cell? ⟨b, 2, none⟩ = some (.int .i64 h.f) ∧
  w.cell? ⟨b, 3, none⟩ = some (.int .i64 h.t) ∧ w.cell? ⟨b, 4, none⟩ = some (.slice h.np h.nn h.nc) ∧ w.cell? ⟨b, 5, none⟩ = some (.slice h.kp h.kn h.kc) := by
 simpa [BrAt] using hat
abbrev Hd.obj (h : Hd) : Obj := .cells #[.int .i64 h.k, .int .i64 h.m, .int .i64 h.f, .int .i64 h.t, .slice h.np h.nn h.nc, .slice h.kp h.kn h.kc] 26
/-- What a branch's box gives: the world behind it. -/
theorem boxed (w : World) (b : Br) (hl : b.Lies w) : ∃ w1, w1 = w.alloc b.h.obj ∧ BrAt w1 w.heap.size 0 b.h ∧ b.Lies w1 ∧ Below w.heap.size w w1 ∧ w1.heap.size = w.heap.size + 1 :=
 ⟨_, rfl, brAt_new w b.h 26, hl.step _ ((Below.refl w.heap.size w).alloc (Nat.le_refl _) _), (Below.refl w.heap.size w).alloc (Nat.le_refl _) _, by simp⟩

set_option maxHeartbeats 1000000 in
theorem refInts_any (p : Option Addr) (n c : Nat) (l : List Int) (p' : Option Addr) (n' c' : Nat) (l' : List Int) (w : World) (h : InV mkI w p n c l) (h' : InV mkI w p' n' c' l') (hn : n ≤ 17592186044416) :
  Calls Tryz.prog 24 #[.slice p n c, .slice p' n' c'] w fun e w' => e = .returned (.bool (sameI l l')) ∧ Below w.heap.size w w' := by
 by_cases hln : n = n'
 ·subst hln
  have hl := h.1
  have hl' := h'.1
  have HA := Lib.hid h
  have HA' := Lib.hid h'
  have HL := Lib.hid hl
  have HL' := Lib.hid hl'
  clear h h' hl hl'
  have hnz : (0 : Int) ≤ (n : Int) := by omega
  go_enter Tryz.func24, Tryz.ntmps24
  go_wp2_with fail
  go_loopw [5] (fun i wr => ∃ k : Nat, k ≤ n ∧ i = .int .i64 k ∧ Hid (∀ i (h1 : i < l.length) (h2 : i < l'.length), i < k → l[i] = l'[i]) ∧ ∃ m, wr = w.drewN m) (fun i _ => n - (intOf i).toNat)
  case atStart => exact ⟨0, by omega, rfl, Lib.hid (fun i _ _ h => by omega), 0, rfl⟩
  case round =>
   obtain ⟨k, hk, rfl, HE, m, rfl⟩ := hrel
   by_cases hlt : k < n
   ·obtain ⟨b, off, rfl, hc1, hb, hat⟩ := HA.out.2.resolve_left (by omega)
    obtain ⟨b', off', rfl, hc1', hb', hat'⟩ := HA'.out.2.resolve_left (by omega)
    have hkl : k < l.length := by rw [← HL.out]; exact hlt
    have hkl' : k < l'.length := by rw [← HL'.out]; exact hlt
    have c0 : w.cell? ⟨b, off + k, none⟩ = some (.int .i64 l[k]) := hat k hkl
    have c1 : w.cell? ⟨b', off' + k, none⟩ = some (.int .i64 l'[k]) := hat' k hkl'
    have hk1 : (0 : Int) ≤ (k : Int) := by omega
    have hk2 : (k : Int) < (n : Int) := by omega
    by_cases heq : l[k] = l'[k]
    ·have HE2 : Hid (∀ i (h1 : i < l.length) (h2 : i < l'.length), i < k + 1 → l[i] = l'[i]) := Lib.hid fun i h1 h2 hi => by
      rcases Nat.lt_or_ge i k with h3 | h3
      ·exact HE.out i h1 h2 h3
      ·obtain rfl : i = k := by omega
       exact heq
     rw [← heq] at c1
     clear heq hat hat'
     generalize l[k] = t at *
     go_wp2
     go_quiet (fail)
     go_wp2
     go_roundw
     case rel => exact ⟨k + 1, by omega, by go_num, HE2, _, rfl⟩
     case measure => simp [intOf]; omega
    ·have HR := Lib.hid (sameI_at hkl hkl' heq)
     clear hat hat'
     have hne : (l[k] == l'[k]) = false := by rw [beq_eq_false_iff_ne]; exact heq
     generalize l[k] = t at *
     generalize l'[k] = t' at *
     go_wp2
     go_quiet (fail)
     go_wp2
     go_ret
     exact ⟨ret_bool HR.out.symm, below_drewN (below_drewN (Below.refl _ _) _) _⟩
   ·have HR : Hid (sameI l l' = true) := Lib.hid (sameI_all (by rw [← HL.out, ← HL'.out]) fun i h1 h2 => HE.out i h1 h2 (by rw [← HL.out] at h1; omega))
    go_wp2
    go_ret
    exact ⟨ret_bool HR.out.symm, below_drewN (Below.refl _ _) _⟩
 ·have HR : Hid (sameI l l' = false) := Lib.hid (sameI_len (by rw [← h.1, ← h'.1]; exact hln))
  have hne : ((n : Int) == (n' : Int)) = false := by rw [beq_eq_false_iff_ne]; omega
  clear h h'
  go_enter Tryz.func24, Tryz.ntmps24
  go_wp2
  go_ret
  exact ⟨ret_bool HR.out.symm, Below.refl _ _⟩
mutual
/-- Are two branches the same, part by part? -/
def Br.same : Br → Br → Bool
 | .mk h ks, b => decide (h.k = b.h.k) && (decide (h.m = b.h.m) && (decide (h.f = b.h.f) && (decide (h.t = b.h.t) && (sameI h.ns b.h.ns && (decide (ks.length = b.ks.length) && sames ks b.ks)))))
def sames : List Br → List Br → Bool
 | [], _ => true
 | x :: r, l => match l with
  | [] => true
  | y :: s => x.same y && sames r s
end
theorem same_eq (a b : Br) : a.same b = (decide (a.h.k = b.h.k) && (decide (a.h.m = b.h.m) && (decide (a.h.f = b.h.f) && (decide (a.h.t = b.h.t) && (sameI a.h.ns b.h.ns && (decide (a.ks.length = b.ks.length) && sames a.ks b.ks)))))) := by
 cases a; cases b; rfl

set_option maxHeartbeats 4000000 in
theorem refSame_any (a : Br) : ∀ (b : Br) (w : World), a.Lies w → b.Lies w → a.Few →
  Calls Tryz.prog 10 #[a.h.val, b.h.val] w fun e w' => e = .returned (.bool (a.same b)) ∧ Below w.heap.size w w' := by
 induction a using Br.ind with
 | hP h ks ih =>
  intro b w hl hl' hfit
  obtain ⟨w1, e1, c1, l1, b1, s1⟩ := boxed w _ hl
  obtain ⟨w2, e2, c2, l2, b2, s2⟩ := boxed w1 _ (hl'.step _ b1)
  have c1 := c1.step (by omega) b2
  have l1 := l1.step _ b2
  have b12 := b1.trans (b2.mono (by omega))
  obtain ⟨hnames, hkids, hall⟩ := (lies_iff _ _).1 l1
  obtain ⟨hnames', hkids', hall'⟩ := (lies_iff _ _).1 l2
  simp only [Br.Few, fewAll_iff] at hfit
  simp only [Br.h, Br.ks] at hnames hkids hall c1 e1 e2 ⊢
  have HR := Lib.hid (same_eq (.mk h ks) b)
  simp only [Br.h, Br.ks] at HR
  obtain ⟨g, js⟩ := b
  simp only [Br.h, Br.ks] at hnames' hkids' hall' c2 e2 HR ⊢
  obtain ⟨hk, hm, hf, ht, np, nn, nc, ns, kp, kn, kc⟩ := h
  obtain ⟨gk, gm, gf, gt, np', nn', nc', ns', kp', kn', kc'⟩ := g
  obtain ⟨hfit1, hlen, hfit2⟩ := hfit
  have hkn : kn = ks.length := hkids.1
  have hkn' : kn' = js.length := hkids'.1
  subst hkn hkn'
  simp only at hfit1 hnames hnames' hkids hkids' HR
  have HI1 := Lib.hid (refInts_any np nn nc ns np' nn' nc' ns' w2 hnames hnames' (by have := hnames.1; omega))
  have HK := Lib.hid hkids
  have HK' := Lib.hid hkids'
  have HL := Lib.hid hall
  have HL' := Lib.hid hall'
  have HI := Lib.hid ih
  have HF2 := Lib.hid hfit2
  have HB := Lib.hid b12
  have HC1 := Lib.hid c1
  have HC2 := Lib.hid c2
  have S1 := Lib.hid s1
  have S2 := Lib.hid s2
  have E2 := Lib.hid e2
  subst e1
  generalize (Br.mk ⟨hk, hm, hf, ht, np, nn, nc, ns, kp, ks.length, kc⟩ ks).same (Br.mk ⟨gk, gm, gf, gt, np', nn', nc', ns', kp', js.length, kc'⟩ js) = q at *
  generalize sameI ns ns' = qi at *
  clear hnames hnames' hkids hkids' hall hall' ih hfit2 b12 c1 c2 l1 l2 b1 b2 hl hl' hfit1 s1 s2 e2
  by_cases h1 : hk = gk
  ·by_cases h2 : hm = gm
   ·by_cases h3 : hf = gf
    ·by_cases h4 : ht = gt
     ·subst h1 h2 h3 h4
      simp only [decide_true, Bool.true_and] at HR
      cases hqi : qi
      ·have hq : q = false := by rw [HR.out, hqi]; rfl
       subst hq
       rw [hqi] at HI1
       go_enter Tryz.func10, Tryz.ntmps10
       go_wp2_with fail
       rw [← E2.out]
       refine HI1.out.mono ?_
       rintro e w3 ⟨rfl, hb3⟩
       have HB3 := Lib.hid (HB.out.trans (hb3.mono HB.out.size))
       clear hb3
       go_wp2_with fail
       go_ret
       exact ⟨rfl, HB3.out⟩
      ·rw [hqi] at HI1
       by_cases h5 : ks.length = js.length
       ·have HR2 : Hid (q = sames (ks.drop 0) (js.drop 0)) := Lib.hid (by rw [HR.out, hqi]; simp [h5])
        have H5 := Lib.hid h5
        have hlj : ((ks.length : Int) == (js.length : Int)) = true := by rw [beq_iff_eq]; omega
        have hlj2 : ((ks.length : Int) != (js.length : Int)) = false := by simp [h5]
        clear HR h5
        go_enter Tryz.func10, Tryz.ntmps10
        go_wp2_with fail
        rw [← E2.out]
        refine HI1.out.mono ?_
        rintro e w3 ⟨rfl, hb3⟩
        have HB3 := Lib.hid hb3
        have hs2 := HB.out.size
        have hz3 := hb3.size
        have hz1 := S1.out
        have hz2 := S2.out
        obtain ⟨_, _, _, _, _, a5⟩ := (HC1.out.step (by omega) hb3).box
        obtain ⟨_, _, _, _, _, d5⟩ := (HC2.out.step (by omega) hb3).box
        rw [hz1] at d5
        clear hb3
        go_wp2_with fail
        go_loopw [5] (fun iv wr => ∃ i : Nat, i ≤ ks.length ∧ iv = .int .i64 i ∧ Hid (q = sames (ks.drop i) (js.drop i)) ∧ Below w3.heap.size w3 wr) (fun iv _ => ks.length - (intOf iv).toNat)
        case atStart => exact ⟨0, by omega, rfl, HR2, Below.refl _ _⟩
        case round =>
         obtain ⟨i, hi, rfl, HQ, hbe⟩ := hrel
         have t5 := (hbe.cell (p := ⟨w.heap.size, _, none⟩) (by show w.heap.size < w3.heap.size; omega)).trans a5
         have u5 := (hbe.cell (p := ⟨w.heap.size + 1, _, none⟩) (by show w.heap.size + 1 < w3.heap.size; omega)).trans d5
         have hz := hbe.size
         by_cases hlt : i < ks.length
         ·have hlt' : i < js.length := by rw [← H5.out]; exact hlt
          have hb3e := HB3.out.trans (hbe.mono hz3)
          obtain ⟨bx, ox, rfl, _, hbx, hatx⟩ := (HK.out.step hb3e).2.resolve_left (by omega)
          obtain ⟨bY, oY, rfl, _, hbY, hatY⟩ := (HK'.out.step hb3e).2.resolve_left (by omega)
          obtain ⟨x0, x1, x2, x3, x4, x5⟩ := hatx i hlt
          obtain ⟨y0, y1, y2, y3, y4, y5⟩ := hatY i hlt'
          have hmem := List.getElem_mem hlt
          have hmem' := List.getElem_mem hlt'
          have HX := Lib.hid (HI.out ks[i] hmem js[i] wr.drew (((HL.out _ hmem).step _ hb3e).step _ (Below.refl _ _).drew) (((HL'.out _ hmem').step _ hb3e).step _ (Below.refl _ _).drew) (HF2.out _ hmem))
          have HD : Hid (q = (ks[i].same js[i] && sames (ks.drop (i + 1)) (js.drop (i + 1)))) := Lib.hid (by
           rw [HQ.out, List.drop_eq_getElem_cons hlt, List.drop_eq_getElem_cons hlt']; simp only [sames])
          have hr1 : (0 : Int) ≤ (i : Int) := by omega
          have hr2 : (i : Int) < (ks.length : Int) := by omega
          have hr3 : (i : Int) < (js.length : Int) := by omega
          have HBE := Lib.hid hbe
          have hwn : w.heap.size < wr.heap.size := by omega
          have hwn1 : w.heap.size + 1 < wr.heap.size := by omega
          clear hatx hatY hmem hmem' hbe hb3e a5 d5 HK HK' HL HL' HI HF2 HQ H5 HI1 HC1 HC2 S1 S2 E2
          generalize ks[i] = x at *
          generalize js[i] = y at *
          cases hxy : x.same y
          ·have hq : q = false := by rw [HD.out, hxy]; rfl
           subst hq
           rw [hxy] at HX
           clear HD hxy
           go_wp2_with fail
           go_region_held3 (fun w' => w'.cell? ⟨w.heap.size, 5, none⟩ = some (.slice (some ⟨bx, ox, none⟩) ks.length kc) ∧ w'.cell? ⟨w.heap.size + 1, 5, none⟩ = some (.slice (some ⟨bY, oY, none⟩) js.length kc') ∧ w'.cell? ⟨bx, ox + i * 6, none⟩ = some (.int .i64 x.h.k) ∧ w'.cell? ⟨bx, ox + i * 6 + 1, none⟩ = some (.int .i64 x.h.m) ∧ w'.cell? ⟨bx, ox + i * 6 + 2, none⟩ = some (.int .i64 x.h.f) ∧ w'.cell? ⟨bx, ox + i * 6 + 3, none⟩ = some (.int .i64 x.h.t) ∧ w'.cell? ⟨bx, ox + i * 6 + 4, none⟩ = some (.slice x.h.np x.h.nn x.h.nc) ∧ w'.cell? ⟨bx, ox + i * 6 + 5, none⟩ = some (.slice x.h.kp x.h.kn x.h.kc) ∧ w'.cell? ⟨bY, oY + i * 6, none⟩ = some (.int .i64 y.h.k) ∧ w'.cell? ⟨bY, oY + i * 6 + 1, none⟩ = some (.int .i64 y.h.m) ∧ w'.cell? ⟨bY, oY + i * 6 + 2, none⟩ = some (.int .i64 y.h.f) ∧ w'.cell? ⟨bY, oY + i * 6 + 3, none⟩ = some (.int .i64 y.h.t) ∧ w'.cell? ⟨bY, oY + i * 6 + 4, none⟩ = some (.slice y.h.np y.h.nn y.h.nc) ∧ w'.cell? ⟨bY, oY + i * 6 + 5, none⟩ = some (.slice y.h.kp y.h.kn y.h.kc)) (go_keep) ((first | (go_at_call 10; refine HX.out.mono ?_; rintro e w4 ⟨rfl, hb4⟩; have z0 := (hb4.cell (p := ⟨w.heap.size, _, none⟩) hwn).trans t5; have z1 := (hb4.cell (p := ⟨w.heap.size + 1, _, none⟩) hwn1).trans u5; have z2 := (hb4.cell (p := ⟨bx, _, none⟩) hbx).trans x0; have z3 := (hb4.cell (p := ⟨bx, _, none⟩) hbx).trans x1; have z4 := (hb4.cell (p := ⟨bx, _, none⟩) hbx).trans x2; have z5 := (hb4.cell (p := ⟨bx, _, none⟩) hbx).trans x3; have z6 := (hb4.cell (p := ⟨bx, _, none⟩) hbx).trans x4; have z7 := (hb4.cell (p := ⟨bx, _, none⟩) hbx).trans x5; have z8 := (hb4.cell (p := ⟨bY, _, none⟩) hbY).trans y0; have z9 := (hb4.cell (p := ⟨bY, _, none⟩) hbY).trans y1; have z10 := (hb4.cell (p := ⟨bY, _, none⟩) hbY).trans y2; have z11 := (hb4.cell (p := ⟨bY, _, none⟩) hbY).trans y3; have z12 := (hb4.cell (p := ⟨bY, _, none⟩) hbY).trans y4; have z13 := (hb4.cell (p := ⟨bY, _, none⟩) hbY).trans y5)))
           have hb4' : Below wr.heap.size wr w4 := ((Below.refl _ _).drew).trans hb4
           have HB4 := Lib.hid (HB.out.trans ((HB3.out.trans (HBE.out.mono hz3)).mono HB.out.size |>.trans (hb4'.mono (by show w.heap.size ≤ wr.heap.size; omega))))
           clear hb4 hb4'
           go_wp2_with fail
           go_ret
           exact ⟨by first | trivial | rfl, HB4.out⟩
          ·have HD2 : Hid (q = sames (ks.drop (i + 1)) (js.drop (i + 1))) := Lib.hid (by rw [HD.out, hxy]; rfl)
           rw [hxy] at HX
           clear HD hxy
           go_wp2_with fail
           go_region_held3 (fun w' => w'.cell? ⟨w.heap.size, 5, none⟩ = some (.slice (some ⟨bx, ox, none⟩) ks.length kc) ∧ w'.cell? ⟨w.heap.size + 1, 5, none⟩ = some (.slice (some ⟨bY, oY, none⟩) js.length kc') ∧ w'.cell? ⟨bx, ox + i * 6, none⟩ = some (.int .i64 x.h.k) ∧ w'.cell? ⟨bx, ox + i * 6 + 1, none⟩ = some (.int .i64 x.h.m) ∧ w'.cell? ⟨bx, ox + i * 6 + 2, none⟩ = some (.int .i64 x.h.f) ∧ w'.cell? ⟨bx, ox + i * 6 + 3, none⟩ = some (.int .i64 x.h.t) ∧ w'.cell? ⟨bx, ox + i * 6 + 4, none⟩ = some (.slice x.h.np x.h.nn x.h.nc) ∧ w'.cell? ⟨bx, ox + i * 6 + 5, none⟩ = some (.slice x.h.kp x.h.kn x.h.kc) ∧ w'.cell? ⟨bY, oY + i * 6, none⟩ = some (.int .i64 y.h.k) ∧ w'.cell? ⟨bY, oY + i * 6 + 1, none⟩ = some (.int .i64 y.h.m) ∧ w'.cell? ⟨bY, oY + i * 6 + 2, none⟩ = some (.int .i64 y.h.f) ∧ w'.cell? ⟨bY, oY + i * 6 + 3, none⟩ = some (.int .i64 y.h.t) ∧ w'.cell? ⟨bY, oY + i * 6 + 4, none⟩ = some (.slice y.h.np y.h.nn y.h.nc) ∧ w'.cell? ⟨bY, oY + i * 6 + 5, none⟩ = some (.slice y.h.kp y.h.kn y.h.kc)) (go_keep) ((first | (go_at_call 10; refine HX.out.mono ?_; rintro e w4 ⟨rfl, hb4⟩; have z0 := (hb4.cell (p := ⟨w.heap.size, _, none⟩) hwn).trans t5; have z1 := (hb4.cell (p := ⟨w.heap.size + 1, _, none⟩) hwn1).trans u5; have z2 := (hb4.cell (p := ⟨bx, _, none⟩) hbx).trans x0; have z3 := (hb4.cell (p := ⟨bx, _, none⟩) hbx).trans x1; have z4 := (hb4.cell (p := ⟨bx, _, none⟩) hbx).trans x2; have z5 := (hb4.cell (p := ⟨bx, _, none⟩) hbx).trans x3; have z6 := (hb4.cell (p := ⟨bx, _, none⟩) hbx).trans x4; have z7 := (hb4.cell (p := ⟨bx, _, none⟩) hbx).trans x5; have z8 := (hb4.cell (p := ⟨bY, _, none⟩) hbY).trans y0; have z9 := (hb4.cell (p := ⟨bY, _, none⟩) hbY).trans y1; have z10 := (hb4.cell (p := ⟨bY, _, none⟩) hbY).trans y2; have z11 := (hb4.cell (p := ⟨bY, _, none⟩) hbY).trans y3; have z12 := (hb4.cell (p := ⟨bY, _, none⟩) hbY).trans y4; have z13 := (hb4.cell (p := ⟨bY, _, none⟩) hbY).trans y5)))
           have hb4' : Below wr.heap.size wr w4 := ((Below.refl _ _).drew).trans hb4
           have HB4 := Lib.hid (HBE.out.trans (hb4'.mono hz))
           clear hb4 hb4'
           go_wp2_with fail
           go_roundw
           case rel => exact ⟨i + 1, by omega, by go_num, HD2, HB4.out⟩
           case measure => simp [intOf]; omega
         ·have hq : q = true := by rw [HQ.out, List.drop_eq_nil_of_le (by omega)]; simp only [sames]
          subst hq
          have HBE := Lib.hid (HB.out.trans ((HB3.out.trans (hbe.mono hz3)).mono HB.out.size))
          clear hbe
          go_wp2_with fail
          go_ret
          exact ⟨by first | trivial | rfl, HBE.out⟩
       ·have hq : q = false := by rw [HR.out, hqi]; simp [h5]
        subst hq
        have hlj : ((ks.length : Int) == (js.length : Int)) = false := by rw [beq_eq_false_iff_ne]; omega
        go_enter Tryz.func10, Tryz.ntmps10
        go_wp2_with fail
        rw [← E2.out]
        refine HI1.out.mono ?_
        rintro e w3 ⟨rfl, hb3⟩
        have HB3 := Lib.hid (HB.out.trans (hb3.mono HB.out.size))
        have hz1 := S1.out
        have hz2 := S2.out
        obtain ⟨_, _, _, _, _, a5⟩ := (HC1.out.step (by omega) hb3).box
        obtain ⟨_, _, _, _, _, d5⟩ := (HC2.out.step (by omega) hb3).box
        rw [hz1] at d5
        clear hb3
        go_wp2_with fail
        go_ret
        exact ⟨by first | trivial | rfl, HB3.out⟩
     ·subst h1 h2 h3
      have hq : q = false := by rw [HR.out]; simp [h4]
      subst hq
      have hne : (ht == gt) = false := by rw [beq_eq_false_iff_ne]; exact h4
      go_enter Tryz.func10, Tryz.ntmps10
      go_wp2_with fail
      go_ret
      exact ⟨by first | trivial | rfl, by have := HB.out; rw [E2.out] at this; exact this⟩
    ·subst h1 h2
     have hq : q = false := by rw [HR.out]; simp [h3]
     subst hq
     have hne : (hf == gf) = false := by rw [beq_eq_false_iff_ne]; exact h3
     go_enter Tryz.func10, Tryz.ntmps10
     go_wp2_with fail
     go_ret
     exact ⟨by first | trivial | rfl, by have := HB.out; rw [E2.out] at this; exact this⟩
   ·subst h1
    have hq : q = false := by rw [HR.out]; simp [h2]
    subst hq
    have hne : (hm == gm) = false := by rw [beq_eq_false_iff_ne]; exact h2
    go_enter Tryz.func10, Tryz.ntmps10
    go_wp2_with fail
    go_ret
    exact ⟨by first | trivial | rfl, by have := HB.out; rw [E2.out] at this; exact this⟩
  ·have hq : q = false := by rw [HR.out]; simp [h1]
   subst hq
   have hne : (hk == gk) = false := by rw [beq_eq_false_iff_ne]; exact h1
   go_enter Tryz.func10, Tryz.ntmps10
   go_wp2_with fail
   go_ret
   exact ⟨by first | trivial | rfl, by have := HB.out; rw [E2.out] at this; exact this⟩
theorem sames_pb {ks : List Br} (ih : ∀ a ∈ ks, ∀ b : Br, a.pb = b.pb → a.same b = true) : ∀ js : List Br, ks.map Br.pb = js.map Br.pb → sames ks js = true := by
 induction ks with
 | nil => intro js _; simp only [sames]
 | cons x r ih2 =>
  intro js h
  cases js with
  | nil => cases h
  | cons y s =>
   simp only [List.map_cons, List.cons.injEq] at h
   simp only [sames, ih x (by simp) y h.1, ih2 (fun a ha => ih a (by simp [ha])) s h.2, Bool.and_self]
/-- Branches that are the same as such are the same part by part. -/
theorem same_pb (a : Br) : ∀ b : Br, a.pb = b.pb → a.same b = true := by
 induction a using Br.ind with
 | hP h ks ih =>
  intro b hb
  obtain ⟨g, js⟩ := b
  simp only [Br.pb, Pb.mk.injEq, pbs_map] at hb
  obtain ⟨h1, h2, h3, h4, h5, h6⟩ := hb
  have h7 := congrArg List.length h6
  simp only [List.length_map] at h7
  rw [same_eq]
  simp only [Br.h, Br.ks, h1, h2, h3, h4, h5, h7, decide_true, Bool.true_and, sames_pb ih js h6, sameI, beq_self_eq_true]
end Go.Proofs.YtkjgkchdkeggoaaGreatDoor

namespace Go.Proofs.YtkjgkchdkeggoaaGreatDoor
open Go.RowKit
set_option linter.unusedVariables false

theorem chain_mem {f t : Int} : ∀ {l : List Pb}, ChainP f t l → ∀ b ∈ l, b.Rt ∧ f ≤ b.fr ∧ b.to ≤ t := by
 intro l
 induction l generalizing f with
 | nil => intro _ b hb; cases hb
 | cons x r ih =>
  intro h b hb
  simp only [ChainP] at h
  have h2 := h.2.2.le
  have h1 := h.1.le
  rcases List.mem_cons.1 hb with rfl | hb
  ·exact ⟨h.1, h.2.1, h2⟩
  ·obtain ⟨a1, a2, a3⟩ := ih h.2.2 b hb
   exact ⟨a1, by omega, a3⟩
end Go.Proofs.YtkjgkchdkeggoaaGreatDoor

namespace Go.Proofs.YtkjgkchdkeggoaaGreatDoor
open Go.RowKit
set_option maxRecDepth 20000
set_option linter.unusedVariables false
set_option linter.unusedSimpArgs false

mutual
/-- All parts, in order. -/
def Br.flatB : Br → List Br
 | .mk h ks => .mk h ks :: flatsB ks
def flatsB : List Br → List Br
 | [] => []
 | b :: r => b.flatB ++ flatsB r
end
theorem flatsB_append (a b : List Br) : flatsB (a ++ b) = flatsB a ++ flatsB b := by
 induction a with
 | nil => rfl
 | cons x r ih => simp [flatsB, ih]
theorem flatB_pos (b : Br) : 1 ≤ b.flatB.length := by cases b; simp [Br.flatB]
theorem flatsB_take {ks : List Br} {k : Nat} (h : k < ks.length) : flatsB (ks.take (k + 1)) = flatsB (ks.take k) ++ ks[k].flatB := by
 rw [List.take_succ_eq_append_getElem h, flatsB_append]; simp [flatsB]
theorem flatsB_le (ks : List Br) (k : Nat) : (flatsB (ks.take k)).length ≤ (flatsB ks).length := by
 conv => rhs; rw [← List.take_append_drop k ks, flatsB_append, List.length_append]
 omega
theorem flatsB_len (ks : List Br) : ks.length ≤ (flatsB ks).length := by
 induction ks with
 | nil => simp
 | cons x r ih => have := flatB_pos x; simp only [flatsB, List.length_append, List.length_cons]; omega
/-- A row's cells. -/
def cellsE : List (Br × Int × Int) → List Value
 | [] => []
 | e :: r => hcells e.1.h ++ [.int .i64 e.2.1, .int .i64 e.2.2] ++ cellsE r
theorem cellsE_append (a b : List (Br × Int × Int)) : cellsE (a ++ b) = cellsE a ++ cellsE b := by
 induction a with
 | nil => rfl
 | cons x r ih => simp [cellsE, ih]
theorem cellsE_length (l : List (Br × Int × Int)) : (cellsE l).length = l.length * 8 := by
 induction l with
 | nil => rfl
 | cons x r ih => simp [cellsE, hcells, ih]; omega
theorem cellsE_one (l : List (Br × Int × Int)) : ∀ u ∈ cellsE l, u.oneCell' = true := by
 induction l with
 | nil => intro u hu; cases hu
 | cons x r ih =>
  intro u hu
  simp only [cellsE, List.append_assoc] at hu
  rcases List.mem_append.1 hu with h | h
  ·exact hcells_one _ u h
  ·rcases List.mem_append.1 h with h | h
   ·simp only [List.mem_cons, List.not_mem_nil, or_false] at h
    rcases h with rfl | rfl <;> rfl
   ·exact ih u h
theorem info37 : (Tryz.prog.info? 37).map (fun i => (i.zero, i.size, i.bytes)) = some (some (.agg #[.int .i64 0, .int .i64 0, .int .i64 0, .int .i64 0, .slice none 0 0, .slice none 0 0, .int .i64 0, .int .i64 0]), 8, 96) := by kernel_rfl

set_option maxHeartbeats 4000000 in
theorem rows_any (b : Br) : ∀ (up deep : Int) (n : Nat) (w : World), b.Lies w → b.flatB.length + n ≤ 100000 → 0 ≤ deep → deep + b.flatB.length ≤ 200000 →
  Calls Tryz.prog 26 #[b.h.val, .int .i64 up, .int .i64 deep, .int .i64 (n : Int)] w fun e w' => ∃ v es, e = .returned v ∧ es.map (·.1) = b.flatB ∧ w'.ownsRow w.heap.size 37 8 v es.length (cellsE es) ∧ Below w.heap.size w w' := by
 obtain ⟨i0, hi0, hy0, hy1, hy2⟩ := info_parts info37
 induction b using Br.ind with
 | hP h ks ih =>
  intro up deep n w hl hsz hdeep hdeep2
  simp only [Br.flatB, List.length_cons] at hsz hdeep2
  obtain ⟨w0, e0, c0, l0, b0, s0⟩ := boxed w _ hl
  obtain ⟨_, hkids, hall⟩ := (lies_iff _ _).1 l0
  simp only [Br.h, Br.ks] at e0 c0 hkids hall ⊢
  have HFB : Hid ((Br.mk h ks).flatB = .mk h ks :: flatsB ks) := Lib.hid (by simp only [Br.flatB])
  generalize (Br.mk h ks).flatB = fb at *
  obtain ⟨hk, hm, hf, ht, np, nn, nc, ns, kp, kn, kc⟩ := h
  have hkn : kn = ks.length := hkids.1
  subst hkn
  have HK := Lib.hid hkids
  have HL := Lib.hid hall
  have B0 := Lib.hid b0
  have C0 := Lib.hid c0
  have HI := Lib.hid ih
  have S0 := Lib.hid s0
  clear hkids hall b0 c0 ih hl l0 s0
  go_enter Tryz.func26, Tryz.ntmps26
  go_wp2_with fail
  have hown1 : ((w.alloc (.cells #[.int .i64 hk, .int .i64 hm, .int .i64 hf, .int .i64 ht, .slice np nn nc, .slice kp ks.length kc] 26)).alloc (.cells #[.int .i64 hk, .int .i64 hm, .int .i64 hf, .int .i64 ht, .slice np nn nc, .slice kp ks.length kc, .int .i64 up, .int .i64 deep] 37)).ownsRow w0.heap.size 37 8 (.slice (some ⟨w.heap.size + 1, 0, none⟩) 1 1) 1 [.int .i64 hk, .int .i64 hm, .int .i64 hf, .int .i64 ht, .slice np nn nc, .slice kp ks.length kc, .int .i64 up, .int .i64 deep] := by
   have h1 := heap_alloc_new (w.alloc (.cells #[.int .i64 hk, .int .i64 hm, .int .i64 hf, .int .i64 ht, .slice np nn nc, .slice kp ks.length kc] 26)) (.cells #[.int .i64 hk, .int .i64 hm, .int .i64 hf, .int .i64 ht, .slice np nn nc, .slice kp ks.length kc, .int .i64 up, .int .i64 deep] 37)
   simp only [World.size_alloc] at h1
   exact own_lit h1 (by rw [S0.out]; omega) rfl (by unfold maxLen; omega)
  have hb1 : Below w0.heap.size w0 ((w.alloc (.cells #[.int .i64 hk, .int .i64 hm, .int .i64 hf, .int .i64 ht, .slice np nn nc, .slice kp ks.length kc] 26)).alloc (.cells #[.int .i64 hk, .int .i64 hm, .int .i64 hf, .int .i64 ht, .slice np nn nc, .slice kp ks.length kc, .int .i64 up, .int .i64 deep] 37)) := by
   rw [e0]; exact (Below.refl _ _).alloc (Nat.le_refl _) _
  have hz1 := hb1.size
  generalize (w.alloc (.cells #[.int .i64 hk, .int .i64 hm, .int .i64 hf, .int .i64 ht, .slice np nn nc, .slice kp ks.length kc] 26)).alloc (.cells #[.int .i64 hk, .int .i64 hm, .int .i64 hf, .int .i64 ht, .slice np nn nc, .slice kp ks.length kc, .int .i64 up, .int .i64 deep] 37) = w1 at *
  have HO1 := Lib.hid hown1
  have HB1 := Lib.hid hb1
  clear hown1 hb1 e0
  obtain ⟨hd, hhd⟩ : ∃ hd : Hd, hd = ⟨hk, hm, hf, ht, np, nn, nc, ns, kp, ks.length, kc⟩ := ⟨_, rfl⟩
  have HHD := Lib.hid hhd
  rw [← hhd] at HFB
  clear hhd
  have hkl1 := flatsB_len ks
  go_loopw [9, 10] (fun v i wr => ∃ (k : Nat) (es : List (Br × Int × Int)), k ≤ ks.length ∧ i = .int .i64 k ∧ Hid (es.map (·.1) = .mk hd ks :: flatsB (ks.take k)) ∧ Hid (wr.ownsRow w0.heap.size 37 8 v es.length (cellsE es)) ∧ Below w0.heap.size w0 wr) (fun _ i _ => ks.length - (intOf i).toNat)
  case atStart => exact ⟨0, [(.mk hd ks, up, deep)], by omega, rfl, Lib.hid (by simp [flatsB]), Lib.hid (by rw [HHD.out]; exact HO1.out), HB1.out⟩
  case round =>
   obtain ⟨k, es, hk0, rfl, HE, HO, hbe⟩ := hrel
   obtain ⟨_, _, _, _, _, a5⟩ := (C0.out.step (by have := S0.out; omega) hbe).box
   have hz := hbe.size
   have hm : es.length = 1 + (flatsB (ks.take k)).length := by
    have := congrArg List.length HE.out
    simp only [List.length_map, List.length_cons] at this
    omega
   have hml := flatsB_le ks k
   obtain ⟨m, hme⟩ : ∃ m, m = es.length := ⟨_, rfl⟩
   rw [← hme] at hm HO
   have HME := Lib.hid hme
   clear hme
   by_cases hlt : k < ks.length
   ·obtain ⟨b1, off, rfl, hcap, hb1, hkat⟩ := (HK.out.step hbe).2.resolve_left (by omega)
    obtain ⟨c0, c1, c2, c3, c4, c5⟩ := hkat k hlt
    have hxl := (HL.out ks[k] (List.getElem_mem hlt)).step _ hbe
    have hts := flatsB_take hlt
    have htl := flatsB_le ks (k + 1)
    rw [hts, List.length_append] at htl
    have hp := flatB_pos ks[k]
    have HX := Lib.hid (HI.out ks[k] (List.getElem_mem hlt) n (deep + 1) (n + m) wr hxl (by omega) (by omega) (by omega))
    have HTS := Lib.hid hts
    have hmm : m + ks[k].flatB.length ≤ 100000 := by omega
    have hnm : n + m ≤ 100000 := by omega
    have hdp : deep ≤ 200000 := by omega
    have hm1 : 1 ≤ m := by omega
    obtain ⟨g, c, rfl, _, hg, hgc, hgm⟩ := own_pos HO.out (by omega)
    have HBE := Lib.hid hbe
    have hr1 : (0 : Int) ≤ (k : Int) := by omega
    have hr2 : (k : Int) < (ks.length : Int) := by omega
    clear hm hkat hxl hts htl hbe hml
    generalize ks[k] = x at *
    go_wp2_with fail
    refine HX.out.mono ?_
    rintro e w2 ⟨v2, es2, rfl, hes2, hown2, hb2⟩
    have hl2 : es2.length = x.flatB.length := by rw [← hes2, List.length_map]
    obtain ⟨g2, c2', rfl, hg2, hg2', _, _⟩ := own_pos hown2 (by omega)
    have hz2 := hb2.size
    have HO2 := Lib.hid hown2
    have HB2 := Lib.hid hb2
    have HE2 := Lib.hid hes2
    have hme2 : m + es2.length ≤ 100000 := by omega
    clear hown2 hb2 hes2 hl2
    obtain ⟨xs, hxs⟩ : ∃ xs, xs = es2.length := ⟨_, rfl⟩
    rw [← hxs] at HO2 hme2 ⊢
    have HXS := Lib.hid hxs
    have hxp : 0 < xs := by
     rw [hxs]
     have := congrArg List.length HE2.out
     rw [List.length_map] at this; omega
    clear hxs
    go_wp2_with (at_builtin; refine wpList_append_own _ rfl _ _ 34 rfl w0.heap.size 37 i0 _ 8 96 Tryz.underlying34 hi0 hy0 hy1 hy2 rfl (by omega) _ m _ rfl (ownsRow_below HO.out HB2.out) ⟨g2, 0, none⟩ xs c2' (cellsE es2) rfl (by rw [cellsE_length, HXS.out]) (own_news HO2.out) (cellsE_one es2) (by unfold maxLen; omega) (by omega) (by omega) ?_)
    intro v3 w3 hown3 hgrow _
    have HB3 := Lib.hid ((HBE.out.trans (HB2.out.mono hz)).grown hgrow (by omega) (fun q hq => (HO.out.lt q hq).1))
    have HO3 : Hid (w3.ownsRow w0.heap.size 37 8 v3 (es ++ es2).length (cellsE (es ++ es2))) := Lib.hid (by rw [List.length_append, cellsE_append, ← HME.out, ← HXS.out]; exact hown3)
    clear hown3 hgrow
    go_wp2_with fail
    go_roundw
    case rel => exact ⟨k + 1, es ++ es2, by omega, by go_num, Lib.hid (by rw [List.map_append, HE.out, HE2.out, HTS.out]; simp), HO3, HB3.out⟩
    case measure => simp [intOf]; omega
   ·have HTL := Lib.hid (List.take_of_length_le (l := ks) (i := k) (by omega))
    have HB := Lib.hid hbe
    clear hbe hm hml
    go_wp2_with fail
    go_ret
    refine ⟨_, rfl, es, by rw [HE.out, HTL.out, HFB.out], ?_, B0.out.trans (HB.out.mono (by rw [S0.out]; omega))⟩
    rw [← HME.out]
    exact own_base HO.out (by rw [S0.out]; omega)
set_option maxHeartbeats 1000000 in
theorem refRows_any (b : Br) (w : World) (hl : b.Lies w) (hs : b.flatB.length ≤ 100000) :
  Calls Tryz.prog 12 #[b.h.val] w fun e w' => ∃ v es, e = .returned v ∧ es.map (·.1) = b.flatB ∧ w'.ownsRow w.heap.size 37 8 v es.length (cellsE es) ∧ Below w.heap.size w w' := by
 obtain ⟨w0, e0, c0, l0, b0, s0⟩ := boxed w b hl
 have HX := Lib.hid (rows_any b (-1) 1 0 w0 l0 (by omega) (by omega) (by omega))
 have B0 := Lib.hid b0
 have S0 := Lib.hid s0
 clear c0 l0 b0 hl s0
 generalize b.flatB = fb at *
 generalize b.h = h at *
 go_enter Tryz.func12, Tryz.ntmps12
 go_wp2_with fail
 rw [← e0]
 refine HX.out.mono ?_
 rintro e w2 ⟨v2, es, rfl, he, hown2, hb2⟩
 have HO2 := Lib.hid hown2
 have HB2 := Lib.hid hb2
 have HE := Lib.hid he
 clear hown2 hb2 e0 he
 go_wp2_with fail
 go_ret
 exact ⟨v2, es, rfl, HE.out, own_base HO2.out (by rw [S0.out]; omega), B0.out.trans (HB2.out.mono (by rw [S0.out]; omega))⟩
end Go.Proofs.YtkjgkchdkeggoaaGreatDoor
