/-
  Two texts with a line end between them: plain facts.; Pieces of texts; the first bad token by the words.; The document's Right, where a branch is right.; The law's whole, where a branch is right and its names are names.; A file that is read: where its branch lies, and how often it has a name; the names of a branch's rows.; ParseRight: the law's own walk.; The law's walk, as the row's frame calls it.
-/
import Derived.Test.YtkjgkchdkeggoaaGreatDoorGa
import Derived.Test.YtkjgkchdkeggoaaGreatDoorFiles
import Derived.Test.YtkjgkchdkeggoaaGreatDoorCells
import Derived.Test.YtkjgkchdkeggoaaGreatDoorGb
import Derived.Test.YtkjgkchdkeggoaaGreatDoorLaid
namespace Go.Proofs.YtkjgkchdkeggoaaGreatDoor
open Go.RowKit
set_option maxRecDepth 20000
set_option linter.unusedVariables false
set_option linter.unusedSimpArgs false

theorem passN_more {σ : Type} (f : σ → UInt8 → σ × Bool) (q : σ) (l x : List UInt8) (h : passN f q l < l.length) : passN f q (l ++ x) = passN f q l := by
 induction l generalizing q with
 | nil => simp at h
 | cons c r ih =>
  simp only [List.cons_append, passN] at h ⊢
  cases hb : (f q c).2
  ·rfl
  ·rw [hb] at h
   simp only [cond_true, List.length_cons] at h ⊢
   rw [ih _ (by omega)]
theorem passN_pure_app (g : UInt8 → Bool) (l x : List UInt8) (h : passN (pureF g) () l = l.length) : passN (pureF g) () (l ++ x) = l.length + passN (pureF g) () x := by
 induction l with
 | nil => simp
 | cons c r ih =>
  simp only [List.cons_append, passN, pureF] at h ⊢
  cases hb : g c
  ·rw [hb] at h; simp at h
  ·rw [hb] at h
   simp only [cond_true, List.length_cons] at h ⊢
   rw [ih (by omega)]; omega
theorem passN_stop (g : UInt8 → Bool) (l : List UInt8) (T : List UInt8) (h : g 10 = false) : passN (pureF g) () (l ++ 10 :: T) = passN (pureF g) () l := by
 by_cases hlt : passN (pureF g) () l < l.length
 ·exact passN_more _ _ _ _ hlt
 ·have := passN_le (pureF g) () l
  have e : passN (pureF g) () l = l.length := by omega
  rw [passN_pure_app g l _ e, e]
  simp [passN, pureF, h]
theorem headB_app (r T : List UInt8) (x : Int) (h : headB r x = false) (hx : eqB 10 x = false) : headB (r ++ 10 :: T) x = false := by
 cases r with
 | nil => exact hx
 | cons c r => exact h
theorem headB_keep (r x : List UInt8) (n : Int) (h : headB r n = true) : headB (r ++ x) n = true := by
 cases r with
 | nil => simp [headB] at h
 | cons c r => exact h
theorem headB_len (r : List UInt8) (n : Int) (h : headB r n = true) : 0 < r.length := by
 cases r with
 | nil => simp [headB] at h
 | cons c r => simp
theorem take_app_le (l x : List UInt8) (n : Nat) (h : n ≤ l.length) : (l ++ x).take n = l.take n := List.take_append_of_le_length h
/-- A token that is not bad, and is no blank at the end, is the same with a line end behind it. -/
theorem tok_parted (R T : List UInt8) (hR : R ≠ []) (hk : (tokN R).1 ≠ 3) (hb : ¬ ((tokN R).1 = 1 ∧ (tokN R).2 = R.length)) : tokN (R ++ 10 :: T) = tokN R := by
 cases R with
 | nil => exact absurd rfl hR
 | cons c r =>
  have key : tokN ((c :: r) ++ 10 :: T) = bif blankB c then (1, passN (pureF blankB) () ((c :: r) ++ 10 :: T))
    else bif eqB c 34 then quoteN (r ++ 10 :: T)
    else bif eqB c 40 && headB (r ++ 10 :: T) 42 then noteN ((c :: r) ++ 10 :: T)
    else bif restB c then (plainN (((c :: r) ++ 10 :: T).take (passN (pureF restB) () ((c :: r) ++ 10 :: T))), passN (pureF restB) () ((c :: r) ++ 10 :: T))
    else bif signB c then (plainN (((c :: r) ++ 10 :: T).take (passN (pureF signB) () ((c :: r) ++ 10 :: T))), passN (pureF signB) () ((c :: r) ++ 10 :: T))
    else (plainN (((c :: r) ++ 10 :: T).take 1), 1) := rfl
  have own : tokN (c :: r) = bif blankB c then (1, passN (pureF blankB) () (c :: r))
    else bif eqB c 34 then quoteN r
    else bif eqB c 40 && headB r 42 then noteN (c :: r)
    else bif restB c then (plainN ((c :: r).take (passN (pureF restB) () (c :: r))), passN (pureF restB) () (c :: r))
    else bif signB c then (plainN ((c :: r).take (passN (pureF signB) () (c :: r))), passN (pureF signB) () (c :: r))
    else (plainN ((c :: r).take 1), 1) := rfl
  rw [key]
  rw [own] at hk hb ⊢
  clear key own hR
  rw [passN_stop restB (c :: r) T (by decide), passN_stop signB (c :: r) T (by decide), take_app_le _ _ _ (passN_le _ _ _), take_app_le _ _ _ (passN_le _ _ _), take_app_le _ _ 1 (by simp)]
  cases h1 : blankB c
  ·cases h2 : eqB c 34
   ·cases h3 : (eqB c 40 && headB r 42)
    ·have h3' : (eqB c 40 && headB (r ++ 10 :: T) 42) = false := by
      cases h4 : eqB c 40
      ·rfl
      ·rw [h4, Bool.true_and] at h3; rw [headB_app _ _ _ h3 (by decide)]; rfl
     rw [h3']
     simp only [cond_false]
    ·have h3' : (eqB c 40 && headB (r ++ 10 :: T) 42) = true := by
      rw [Bool.and_eq_true] at h3 ⊢
      exact ⟨h3.1, headB_keep _ _ _ h3.2⟩
     rw [h3']
     simp only [h1, h2, h3, cond_false, cond_true] at hk hb ⊢
     unfold noteN at hk ⊢
     simp only at hk ⊢
     cases e : (passN nF (0, 0) (c :: r) == (c :: r).length)
     ·have hne : ¬ passN nF (0, 0) (c :: r) = (c :: r).length := by simpa using e
      have hle := passN_le nF (0, 0) (c :: r)
      have hm := passN_more nF (0, 0) (c :: r) (10 :: T) (by omega)
      rw [hm]
      have : (passN nF (0, 0) (c :: r) == (c :: r ++ 10 :: T).length) = false := by
       rw [beq_eq_false_iff_ne, List.length_append]; omega
      rw [this]
     ·rw [e] at hk; exact absurd rfl hk
   ·simp only [h1, h2, cond_false, cond_true] at hk hb ⊢
    unfold quoteN at hk ⊢
    simp only at hk ⊢
    cases e : headB (r.drop (passN qF false r)) 34
    ·rw [e] at hk; exact absurd rfl hk
    ·have hl := headB_len _ _ e
     rw [List.length_drop] at hl
     rw [passN_more qF false r (10 :: T) (by omega), List.drop_append_of_le_length (by omega), headB_keep _ _ _ e]
     rfl
  ·simp only [h1, cond_true] at hk hb ⊢
   have hle := passN_le (pureF blankB) () (c :: r)
   rw [passN_more (pureF blankB) () (c :: r) (10 :: T) (by
    apply Nat.lt_of_le_of_ne hle
    intro h
    exact hb ⟨trivial, h⟩)]
/-- A blank up to the end takes the line end in, and all blanks behind it. -/
theorem tok_blank (R T : List UInt8) (hR : R ≠ []) (h1 : (tokN R).1 = 1) (h2 : (tokN R).2 = R.length) : tokN (R ++ 10 :: T) = (1, R.length + 1 + passN (pureF blankB) () T) := by
 cases R with
 | nil => exact absurd rfl hR
 | cons c r =>
  have hbk : blankB c = true ∧ passN (pureF blankB) () (c :: r) = (c :: r).length := by
   cases hb : blankB c
   ·exfalso
    unfold tokN at h1
    simp only [hb, cond_false] at h1
    cases h2 : eqB c 34
    ·cases h3 : (eqB c 40 && headB r 42)
     ·simp only [h2, h3, cond_false] at h1
      have hp : ∀ p, plainN p ≠ 1 := by
       intro p
       unfold plainN
       cases p with
       | nil => decide
       | cons a t =>
        simp only
        cases digB a
        ·cases hz : (kindN (bsOf (a :: t)) == 0)
         ·simp only [cond_false]
          unfold kindN
          rcases beg_cases (bsOf (a :: t)) with h | h | h | h | h <;> rw [h] <;> cases mkB (bsOf (a :: t)) <;> cases allS (bsOf (a :: t)) <;> cases allR (bsOf (a :: t)) <;> cases kwB (bsOf (a :: t)) <;> decide
         ·simp
        ·cases passN (pureF digB) () (a :: t) == (a :: t).length <;> simp
      cases h4 : restB c
      ·cases h5 : signB c
       ·simp only [h4, h5, cond_false] at h1; exact hp _ h1
       ·simp only [h4, h5, cond_false, cond_true] at h1; exact hp _ h1
      ·simp only [h4, cond_true] at h1; exact hp _ h1
     ·simp only [h2, h3, cond_false, cond_true] at h1
      unfold noteN at h1
      simp only at h1
      cases e : (passN nF (0, 0) (c :: r) == (c :: r).length) <;> rw [e] at h1 <;> simp at h1
    ·simp only [h2, cond_true] at h1
     unfold quoteN at h1
     simp only at h1
     cases e : headB (r.drop (passN qF false r)) 34 <;> rw [e] at h1 <;> simp at h1
   ·refine ⟨rfl, ?_⟩
    unfold tokN at h2
    simp only [hb, cond_true] at h2
    exact h2
  have key : tokN ((c :: r) ++ 10 :: T) = bif blankB c then (1, passN (pureF blankB) () ((c :: r) ++ 10 :: T)) else _ := rfl
  rw [key, hbk.1]
  simp only [cond_true]
  rw [passN_pure_app blankB _ _ hbk.2]
  have : passN (pureF blankB) () (10 :: T) = passN (pureF blankB) () T + 1 := rfl
  rw [this]
  congr 1
  omega
theorem tok_line (T : List UInt8) : tokN (10 :: T) = (1, passN (pureF blankB) () T + 1) := rfl

/-- The tokens that say something, from a place on, but the end. -/
def saysF (a : Nat) (l : List UInt8) : List Tok := pickT saysB (scanF l.length a l)
theorem saysF_nil (a : Nat) : saysF a [] = [] := rfl
theorem saysF_at (a : Nat) (l : List UInt8) (h : l ≠ []) : saysF a l = pickT saysB [⟨(tokN l).1, a, a + (tokN l).2⟩] ++ saysF (a + (tokN l).2) (l.drop (tokN l).2) := by
 have hb := tokN_bound l h
 unfold saysF
 obtain ⟨m, hm⟩ : ∃ m, l.length = m + 1 := ⟨l.length - 1, by omega⟩
 rw [hm]
 have he : l.isEmpty = false := by cases l <;> simp_all
 simp only [scanF, he, cond_false]
 rw [show (⟨(tokN l).1, a, a + (tokN l).2⟩ : Tok) :: scanF m (a + (tokN l).2) (l.drop (tokN l).2) = [⟨(tokN l).1, a, a + (tokN l).2⟩] ++ scanF m (a + (tokN l).2) (l.drop (tokN l).2) from rfl, pickT_append]
 rw [scanF_fuel m (l.drop (tokN l).2).length _ _ (by rw [List.length_drop]; omega) (Nat.le_refl _)]
theorem saysF_blanks (b : Nat) (T : List UInt8) : saysF (b + passN (pureF blankB) () T) (T.drop (passN (pureF blankB) () T)) = saysF b T := by
 cases T with
 | nil => rfl
 | cons c r =>
  cases hb : blankB c
  ·have : passN (pureF blankB) () (c :: r) = 0 := by simp [passN, pureF, hb]
   rw [this]; rfl
  ·have ht : tokN (c :: r) = (1, passN (pureF blankB) () (c :: r)) := by unfold tokN; simp only [hb, cond_true]
   rw [saysF_at b (c :: r) (by simp), ht]
   rfl
/-- No token of these is bad. -/
def goodF (a : Nat) (l : List UInt8) : Prop := ∀ t ∈ scanF l.length a l, noBad t = true
theorem goodF_at (a : Nat) (l : List UInt8) (h : l ≠ []) (hg : goodF a l) : (tokN l).1 ≠ 3 ∧ goodF (a + (tokN l).2) (l.drop (tokN l).2) := by
 have hb := tokN_bound l h
 unfold goodF at hg ⊢
 obtain ⟨m, hm⟩ : ∃ m, l.length = m + 1 := ⟨l.length - 1, by omega⟩
 rw [hm] at hg
 have he : l.isEmpty = false := by cases l <;> simp_all
 simp only [scanF, he, cond_false] at hg
 rw [scanF_fuel m (l.drop (tokN l).2).length _ _ (by rw [List.length_drop]; omega) (Nat.le_refl _)] at hg
 refine ⟨?_, fun t ht => hg t (List.mem_cons_of_mem _ ht)⟩
 have := hg _ (List.mem_cons_self ..)
 unfold noBad at this
 simpa using this
theorem says_parted (R T : List UInt8) (a : Nat) (hg : goodF a R) : saysF a (R ++ 10 :: T) = saysF a R ++ saysF (a + R.length + 1) T := by
 obtain ⟨m, hm⟩ : ∃ m, m = R.length := ⟨_, rfl⟩
 induction m using Nat.strongRecOn generalizing R a with
 | _ m ih =>
  by_cases hR : R = []
  ·subst hR
   rw [List.nil_append, saysF_at a (10 :: T) (by simp), tok_line, saysF_nil, List.nil_append]
   have : pickT saysB [⟨1, a, a + (passN (pureF blankB) () T + 1)⟩] = [] := rfl
   simp only [this, List.nil_append, List.drop_succ_cons]
   have h2 := saysF_blanks (a + 1) T
   rw [show a + 1 + passN (pureF blankB) () T = a + (passN (pureF blankB) () T + 1) from by omega] at h2
   simpa using h2
  ·obtain ⟨hk, hg2⟩ := goodF_at a R hR hg
   have hb := tokN_bound R hR
   have hne : R ++ 10 :: T ≠ [] := by simp
   by_cases hbl : (tokN R).1 = 1 ∧ (tokN R).2 = R.length
   ·have ht := tok_blank R T hR hbl.1 hbl.2
    rw [saysF_at a _ hne, ht, saysF_at a R hR, hbl.1, hbl.2]
    have e1 : pickT saysB [⟨1, a, a + R.length⟩] = [] := rfl
    have e2 : pickT saysB [⟨1, a, a + (R.length + 1 + passN (pureF blankB) () T)⟩] = [] := rfl
    simp only [e1, e2, List.nil_append, List.drop_length, saysF_nil]
    have hd : (R ++ 10 :: T).drop (R.length + 1 + passN (pureF blankB) () T) = T.drop (passN (pureF blankB) () T) := by
     rw [show R.length + 1 + passN (pureF blankB) () T = R.length + (1 + passN (pureF blankB) () T) from by omega, List.drop_append, List.drop_of_length_le (by omega), List.nil_append, show R.length + (1 + passN (pureF blankB) () T) - R.length = passN (pureF blankB) () T + 1 from by omega, List.drop_succ_cons]
    rw [hd]
    have h2 := saysF_blanks (a + R.length + 1) T
    rw [show a + R.length + 1 + passN (pureF blankB) () T = a + (R.length + 1 + passN (pureF blankB) () T) from by omega] at h2
    exact h2
   ·have ht := tok_parted R T hR hk hbl
    rw [saysF_at a _ hne, ht, saysF_at a R hR, List.drop_append_of_le_length hb.2]
    have := ih (R.drop (tokN R).2).length (by rw [List.length_drop]; omega) (R.drop (tokN R).2) (a + (tokN R).2) hg2 rfl
    rw [this, List.append_assoc]
    congr 3
    rw [List.length_drop]; omega
def shiftT (d : Nat) (t : Tok) : Tok := ⟨t.k, t.a + d, t.e + d⟩
theorem scanF_shift (n a d : Nat) (l : List UInt8) : scanF n (a + d) l = (scanF n a l).map (shiftT d) := by
 induction n generalizing a l with
 | zero => rfl
 | succ n ih =>
  cases l with
  | nil => rfl
  | cons c r =>
   simp only [scanF, List.isEmpty_cons, cond_false, List.map_cons]
   rw [show a + d + (tokN (c :: r)).2 = a + (tokN (c :: r)).2 + d from by omega, ih]
   rfl
theorem pickT_shift (ask : Int → Bool) (d : Nat) (l : List Tok) : pickT ask (l.map (shiftT d)) = (pickT ask l).map (shiftT d) := by
 induction l with
 | nil => rfl
 | cons x r ih =>
  simp only [List.map_cons, pickT, shiftT]
  cases ask x.k
  ·exact ih
  ·simp only [cond_true, List.map_cons, ih]; rfl
theorem wordsT_says (s : ByteArray) : wordsT s = saysF 0 s.data.toList ++ [⟨0, s.size, s.size⟩] := by
 unfold wordsT scanT restT saysF
 rw [pickT_append, List.drop_zero, data_len]
 rfl
theorem first_good (s : ByteArray) (l : List Tok) (h : (firstT s l).2 = 0) : ∀ t ∈ l, noBad t = true := by
 induction l with
 | nil => intro t ht; simp at ht
 | cons x r ih =>
  simp only [firstT] at h
  cases hb : noBad x
  ·rw [hb] at h
   exact absurd h (badN_ne s x.a)
  ·rw [hb] at h
   intro t ht
   rcases List.mem_cons.1 ht with rfl | ht
   ·exact hb
   ·exact ih h t ht
/-- The words of two texts with a line end between them. -/
theorem words_parted (s t u : ByteArray) (hu : u.data.toList = s.data.toList ++ 10 :: t.data.toList) (h : (firstN s).2 = 0) :
  ∃ A, wordsT s = A ++ [⟨0, s.size, s.size⟩] ∧ wordsT u = A ++ (wordsT t).map (shiftT (s.size + 1)) := by
 refine ⟨saysF 0 s.data.toList, wordsT_says s, ?_⟩
 have hg : goodF 0 s.data.toList := by
  intro x hx
  apply first_good s _ h
  unfold scanT restT
  rw [List.drop_zero]
  rw [data_len] at hx
  exact List.mem_append_left _ hx
 have hz : u.size = s.size + 1 + t.size := by rw [← data_len, hu, List.length_append, List.length_cons, data_len, data_len]; omega
 rw [wordsT_says u, wordsT_says t, hu, says_parted _ _ 0 hg, List.map_append, List.append_assoc]
 congr 1
 have : saysF (0 + s.data.toList.length + 1) t.data.toList = (saysF 0 t.data.toList).map (shiftT (s.size + 1)) := by
  unfold saysF
  rw [← pickT_shift, ← scanF_shift, data_len]
  simp
 rw [this]
 congr 1
 simp only [List.map_cons, List.map_nil, shiftT, hz]
 congr 2 <;> omega
end Go.Proofs.YtkjgkchdkeggoaaGreatDoor

namespace Go.Proofs.YtkjgkchdkeggoaaGreatDoor
open Go.RowKit
set_option maxRecDepth 20000
set_option linter.unusedVariables false
set_option linter.unusedSimpArgs false

theorem ext_list (s : ByteArray) (a e : Nat) : (s.extract a e).data.toList = (s.data.toList.take e).drop a := by
 rw [ByteArray.data_extract, Array.toList_extract, List.extract_eq_take_drop, List.drop_take]
theorem bytes_ext {s t : ByteArray} (h : s.data.toList = t.data.toList) : s = t := by
 cases s; cases t; simp only at h; congr 1; exact Array.ext' h
theorem ext_left {s u : ByteArray} {r : List UInt8} (h : u.data.toList = s.data.toList ++ r) {a e : Nat} (he : e ≤ s.size) : u.extract a e = s.extract a e := by
 apply bytes_ext
 rw [ext_list, ext_list, h, List.take_append_of_le_length (by rw [data_len]; exact he)]
theorem ext_right {t u : ByteArray} {l : List UInt8} (h : u.data.toList = l ++ t.data.toList) (a e : Nat) : u.extract (a + l.length) (e + l.length) = t.extract a e := by
 apply bytes_ext
 rw [ext_list, ext_list, h, Nat.add_comm e, List.take_length_add_append, Nat.add_comm a, List.drop_length_add_append]
theorem firstT_pick (s : ByteArray) (l : List Tok) : firstT s (pickT saysB l) = firstT s l := by
 induction l with
 | nil => rfl
 | cons x r ih =>
  simp only [pickT, firstT]
  cases hs : saysB x.k
  ·have : noBad x = true := by
    unfold noBad
    cases hk : (x.k == 3)
    ·rfl
    ·rw [beq_iff_eq.1 hk] at hs; exact absurd hs (by decide)
   rw [this]; exact ih
  ·simp only [cond_true, firstT, ih]
theorem firstN_words (s : ByteArray) : firstN s = firstT s (wordsT s) := by unfold firstN wordsT; rw [firstT_pick]
theorem firstT_good (s : ByteArray) (A l : List Tok) (h : ∀ t ∈ A, noBad t = true) : firstT s (A ++ l) = firstT s l := by
 induction A with
 | nil => rfl
 | cons x r ih =>
  simp only [List.cons_append, firstT]
  rw [h x (by simp), ih (fun t ht => h t (by simp [ht]))]; rfl
end Go.Proofs.YtkjgkchdkeggoaaGreatDoor

namespace Go.Proofs.YtkjgkchdkeggoaaGreatDoor
open Go.RowKit
set_option maxRecDepth 20000
set_option linter.unusedVariables false
set_option linter.unusedSimpArgs false

/-- A kid ends ahead of the next one. -/
theorem chain_next {f t : Int} : ∀ {l : List Pb}, ChainP f t l → ∀ i (h : i + 1 < l.length), (l[i]'(by omega)).to ≤ l[i + 1].fr := by
 intro l
 induction l generalizing f with
 | nil => intro _ i h; simp at h
 | cons x r ih =>
  intro h i hi
  simp only [ChainP] at h
  cases i with
  | zero =>
   cases r with
   | nil => simp at hi
   | cons y s =>
    have h2 := h.2.2
    simp only [ChainP] at h2
    simpa using h2.2.1
  | succ i => exact ih h.2.2 i (by simpa using hi)
theorem pb_fr (y : Br) : y.pb.fr = y.h.f := by cases y; rfl
theorem pb_to (y : Br) : y.pb.to = y.h.t := by cases y; rfl

set_option maxHeartbeats 4000000 in
theorem right_any (y : Br) : ∀ (w : World), y.Lies w → y.Few → y.pb.Rt →
  Calls Tryz.prog 27 #[y.h.val] w fun e w' => e = .returned (.bool true) ∧ Below w.heap.size w w' := by
 induction y using Br.ind with
 | hP h ks ih =>
  intro w hl hfew hrt
  obtain ⟨w0, e0, c0, l0, b0, s0⟩ := boxed w _ hl
  obtain ⟨hnames, hkids, hall⟩ := (lies_iff _ _).1 l0
  simp only [Br.Few, fewAll_iff] at hfew
  obtain ⟨hf1, hf2, hf3⟩ := hfew
  simp only [Br.h, Br.ks] at e0 c0 hnames hkids hall hf1 ⊢
  obtain ⟨hk, hm, hf, ht, np, nn, nc, ns, kp, kn, kc⟩ := h
  simp only [Br.pb, pbs_map, Pb.Rt] at hrt
  obtain ⟨_, hr0, hr1, hr2, hr3⟩ := hrt
  have hnn : nn = ns.length := hnames.1
  have hkn : kn = ks.length := hkids.1
  have HN := Lib.hid hnames
  have HK := Lib.hid hkids
  have HL := Lib.hid hall
  have HR2 := Lib.hid hr2
  have HR3 := Lib.hid hr3
  have HI := Lib.hid ih
  have HF3 := Lib.hid hf3
  have B0 := Lib.hid b0
  have C0 := Lib.hid (fun W (hW : Below w0.heap.size w0 W) => (c0.step (by omega) hW).box)
  have S0 := Lib.hid s0
  have HNN := Lib.hid hnn
  have HKN := Lib.hid hkn
  have hnl : nn ≤ 1000000 := by simp only at hf1; omega
  have hkl : kn ≤ 1000000 := by omega
  clear hnames hkids hall hr2 hr3 ih hf3 b0 c0 hl l0 s0 hnn hkn hf1 hf2
  go_enter Tryz.func27, Tryz.ntmps27
  go_wp2_with fail
  rw [← e0]
  clear e0
  go_loopw [3, 4] (fun okv iv wr => ∃ i : Nat, i ≤ nn ∧ iv = .int .i64 i ∧ okv = .bool true ∧ Below w0.heap.size w0 wr) (fun _ iv _ => nn - (intOf iv).toNat)
  case atStart => exact ⟨0, by omega, rfl, by simp [hr0, hr1], Below.refl _ _⟩
  case round =>
   obtain ⟨i, hi, rfl, rfl, hbe1⟩ := hrel
   have hz1 := hbe1.size
   obtain ⟨a0, a1, a2, a3, a4, a5⟩ := C0.out _ hbe1
   try simp only at a2 a3 a4 a5
   have HBE1 := Lib.hid hbe1
   clear hbe1
   by_cases hlt : i < nn
   ·obtain ⟨b1, off, rfl, hc1, hb1, hatn⟩ := HN.out.2.resolve_left (by omega)
    have hil : i < ns.length := by rw [← HNN.out]; exact hlt
    have q0 : wr.cell? ⟨b1, off + i, none⟩ = some (.int .i64 ns[i]) := (hatn.step hb1 HBE1.out) i hil
    have hrb1 : (0 : Int) ≤ (i : Int) := by omega
    have hrb2 : (i : Int) < (nn : Int) := by omega
    obtain ⟨x1, x2⟩ := HR2.out ns[i] (List.getElem_mem hil)
    clear hatn
    generalize ns[i] = x at *
    go_wp2_with fail
    go_quiet (fail)
    go_wp2_with fail
    go_roundw
    case rel => exact ⟨i + 1, by omega, by go_num, (by first | rfl | simp_all), below_drewN HBE1.out _⟩
    case measure => simp [intOf]; omega
   ·go_wp2_with fail
    go_loopw [3, 5] (fun okv iv wr => ∃ k : Nat, k ≤ kn ∧ iv = .int .i64 k ∧ okv = .bool true ∧ Below w0.heap.size w0 wr) (fun _ iv _ => kn - (intOf iv).toNat)
    case atStart => exact ⟨0, by omega, rfl, rfl, HBE1.out⟩
    case round =>
     clear a0 a1 a2 a3 a4 a5
     obtain ⟨k, hk0, rfl, rfl, hbe⟩ := hrel
     obtain ⟨a0, a1, a2, a3, a4, a5⟩ := C0.out _ hbe
     try simp only at a2 a3 a4 a5
     have hz := hbe.size
     by_cases hlt2 : k < kn
     ·obtain ⟨b1, off, rfl, hcap, hb1, hkat⟩ := HK.out.2.resolve_left (by omega)
      have hkk : k < ks.length := by rw [← HKN.out]; exact hlt2
      obtain ⟨d0, d1, d2, d3, d4, d5⟩ := (hkat k hkk).step hb1 hbe
      have hmem := List.getElem_mem hkk
      have hch := chain_mem HR3.out ks[k].pb (List.mem_map.2 ⟨_, hmem, rfl⟩)
      have c1 : hf ≤ ks[k].h.f := by have := hch.2.1; rw [pb_fr] at this; exact this
      have c2 : ks[k].h.t ≤ ht := by have := hch.2.2; rw [pb_to] at this; exact this
      have hB1 : Below wr.heap.size wr (wr.alloc (BC ks[k].h)) := (Below.refl _ _).alloc (Nat.le_refl _) _
      have hbe2 := hbe.trans (hB1.mono hz)
      have HBE := Lib.hid hbe2
      have HX := Lib.hid (fun W (hW : Below (wr.alloc (BC ks[k].h)).heap.size (wr.alloc (BC ks[k].h)) W) => HI.out ks[k] hmem W (((HL.out _ hmem).step _ hbe2).step _ hW) (HF3.out _ hmem) hch.1)
      have hnew := Lib.cell_of_heap (heap_alloc_new wr (BC ks[k].h))
      have HKB : Hid (∀ i' u, (hcells ks[k].h)[i']? = some u → (wr.alloc (BC ks[k].h)).cell? ⟨wr.heap.size, i', none⟩ = some u) := Lib.hid (fun i' u hu => by rw [hnew]; simpa [hcells] using hu)
      have HKL : Hid (wr.heap.size < (wr.alloc (BC ks[k].h)).heap.size) := Lib.hid (by simp)
      obtain ⟨e0, e1, e2, e3, e4, e5⟩ := C0.out _ hbe2
      try simp only at e2 e3 e5
      have HQ2 := Lib.hid e2
      have HQ3 := Lib.hid e3
      have HQ5 := Lib.hid e5
      have HL1 : Hid (w.heap.size < (wr.alloc (BC ks[k].h)).heap.size) := Lib.hid (by have := S0.out; have := hbe2.size; omega)
      have hrb1 : (0 : Int) ≤ (k : Int) := by omega
      have hrb2 : (k : Int) < (kn : Int) := by omega
      clear hkat hB1 hbe2 hnew e0 e1 e2 e3 e4 e5
      by_cases hzero : k = 0
      ·have HZ : Hid ((k : Int) = 0) := Lib.hid (by omega)
       clear hmem hch hzero hbe
       generalize ks[k] = y at *
       go_wp2_with fail
       have hkz := HZ.out
       have hkz2 : k = 0 := by omega
       generalize wr.heap.size = kb at *
       generalize wr.alloc (BC y.h) = W1 at *
       refine wp_region_till (fun W : World => Below W1.heap.size W1 W) 35 (by kernel_rfl) ?_
       have hS : (fun W : World => Below W1.heap.size W1 W) W1.drew := (Below.refl _ _).drew
       refine start_fp (N := 93) [(1, .pointer (some ⟨w.heap.size, 0, none⟩)), (3, .bool true), (5, .int .i64 (k : Int)), (6, .pointer (some ⟨kb, 0, none⟩))] (Fs.of rfl rfl (by simp [Act.eval])) ?_
       intro a0 ha0 hF
       refine take_fp 0 [1, 2, 3, 4, 5, 6, 7, 8, 9, 10, 11, 12, 13, 14, 15, 16, 17, 18, 19, 20, 21, 22, 23, 24, 25, 26, 27, 28, 29, 30, 31, 32, 33, 34, 35] (oi := { dst := some 57, op := Op.move (Operand.tmp 3), type := 4, pos := "ref.go:70", after := #[], guard := none }) (d := 57) (v := .bool true) hF hS rfl rfl (by decide) (by kernel_rfl) (by kernel_rfl) (by kernel_rfl) (by kernel_rfl) (fun _ _ _ h => h) (fun a' hA => wanted_none rfl) (run_move_fs rfl rfl) ?_
       clear hF
       intro hF
       refine take_fp 1 [2, 3, 4, 5, 6, 7, 8, 9, 10, 11, 12, 13, 14, 15, 16, 17, 18, 19, 20, 21, 22, 23, 24, 25, 26, 27, 28, 29, 30, 31, 32, 33, 34, 35] (oi := { dst := some 58, op := Op.move (Operand.tmp 57), type := 4, pos := "ref.go:70", after := #[{ on := 0, ground := Ground.data }], guard := none }) (d := 58) (v := .bool true) hF hS rfl rfl (by decide) (by kernel_rfl) (by kernel_rfl) (by kernel_rfl) (by kernel_rfl) (fun _ _ _ h => h) (fun a' hA => wanted_none rfl) (run_move_fs rfl rfl) ?_
       clear hF
       intro hF
       refine take_fp 2 [3, 4, 5, 6, 7, 8, 9, 10, 11, 12, 13, 14, 15, 16, 17, 18, 19, 20, 21, 22, 23, 24, 25, 26, 27, 28, 29, 30, 31, 32, 33, 34, 35] (oi := { dst := some 59, op := Op.load 26 (Operand.tmp 6), type := 26, pos := "ref.go:70", after := #[{ on := 1, ground := Ground.guard }], guard := some (1, true) }) (d := 59) (v := .agg #[.int .i64 y.h.k, .int .i64 y.h.m, .int .i64 y.h.f, .int .i64 y.h.t, .slice y.h.np y.h.nn y.h.nc, .slice y.h.kp y.h.kn y.h.kc]) hF hS rfl rfl (by decide) (by kernel_rfl) (by kernel_rfl) (by kernel_rfl) (by kernel_rfl) (fun _ _ _ h => h) (fun a' hA => hA.wantedB (j := 1) (dj := 58) (b := true) rfl (by kernel_rfl) (by decide) rfl) (fun a' hA w' hw => by have e6 := hA.get 6 rfl; have ec : ∀ v, a'.eval (.const v) = v := fun _ => rfl; have q0 := (hw.cell (p := ⟨kb, 0, none⟩) HKL.out).trans (HKB.out 0 _ rfl); have q1 := (hw.cell (p := ⟨kb, 1, none⟩) HKL.out).trans (HKB.out 1 _ rfl); have q2 := (hw.cell (p := ⟨kb, 2, none⟩) HKL.out).trans (HKB.out 2 _ rfl); have q3 := (hw.cell (p := ⟨kb, 3, none⟩) HKL.out).trans (HKB.out 3 _ rfl); have q4 := (hw.cell (p := ⟨kb, 4, none⟩) HKL.out).trans (HKB.out 4 _ rfl); have q5 := (hw.cell (p := ⟨kb, 5, none⟩) HKL.out).trans (HKB.out 5 _ rfl); clear hA; generalize a'.eval = ρ at *; simp [go_sem, ec, e6, q0, q1, q2, q3, q4, q5]; try rfl) ?_
       clear hF
       intro hF
       refine call_fp 3 (oi := { dst := some 60, op := Op.call { callee := Callee.value (Operand.func 27), args := #[Operand.tmp 59], argTypes := #[26] }, type := 4, pos := "ref.go:70", after := #[{ on := 2, ground := Ground.data }, { on := 1, ground := Ground.chain }, { on := 1, ground := Ground.guard }], guard := some (1, true) }) (d := 60) (R := fun e w' => e = .returned (.bool true) ∧ Below W1.heap.size W1 w') hF rfl rfl (by decide) (by kernel_rfl) (fun a' hA => hA.wantedB (j := 1) (dj := 58) (b := true) rfl (by kernel_rfl) (by decide) rfl) (fun a' hA => by have e59 := hA.get 59 rfl; have ef : ∀ f, a'.eval (.func f) = .func (.func f) #[] #[] := fun _ => rfl; have ec : ∀ v, a'.eval (.const v) = v := fun _ => rfl; clear hA; generalize a'.eval = ρ at *; simp [go_sem, ef, ec, e59]) ((HX.out _ hS).mono (by rintro e w' ⟨rfl, hb⟩; exact ⟨rfl, hS.trans (hb.mono hS.size)⟩)) (by rintro w' ⟨h, _⟩; cases h) (by rintro ch w' ⟨h, _⟩; cases h) ?_
       rintro v3 w3x ⟨h, hb⟩
       have h := Ending.returned.inj h
       subst h
       refine ⟨fun _ => hb, ?_⟩
       clear hS
       have hS : (fun W : World => Below W1.heap.size W1 W) w3x := hb
       clear hb hF
       intro hF
       refine take_fp 4 [5, 6, 7, 8, 9, 10, 11, 12, 13, 14, 15, 16, 17, 18, 19, 20, 21, 22, 23, 24, 25, 26, 27, 28, 29, 30, 31, 32, 33, 34, 35] (oi := { dst := some 61, op := Op.pick (Operand.tmp 58) (Operand.tmp 60) (Operand.const (Value.bool false)), type := 4, pos := "ref.go:70", after := #[{ on := 1, ground := Ground.data }, { on := 3, ground := Ground.data }], guard := none }) (d := 61) (v := .bool true) hF hS rfl rfl (by decide) (by kernel_rfl) (by kernel_rfl) (by kernel_rfl) (by kernel_rfl) (fun _ _ _ h => h) (fun a' hA => wanted_none rfl) (fun a' hA w' hw => by have e58 := hA.get 58 rfl; have e60 := hA.get 60 rfl; have ec : ∀ v, a'.eval (.const v) = v := fun _ => rfl; clear hA; generalize a'.eval = ρ at *; simp [go_sem, ec, e58, e60]; try rfl) ?_
       clear hF
       intro hF
       refine take_fp 5 [6, 7, 8, 9, 10, 11, 12, 13, 14, 15, 16, 17, 18, 19, 20, 21, 22, 23, 24, 25, 26, 27, 28, 29, 30, 31, 32, 33, 34, 35] (oi := { dst := some 62, op := Op.move (Operand.tmp 61), type := 4, pos := "ref.go:70", after := #[{ on := 4, ground := Ground.data }, { on := 3, ground := Ground.chain }], guard := none }) (d := 62) (v := .bool true) hF hS rfl rfl (by decide) (by kernel_rfl) (by kernel_rfl) (by kernel_rfl) (by kernel_rfl) (fun _ _ _ h => h) (fun a' hA => wanted_none rfl) (run_move_fs rfl rfl) ?_
       clear hF
       intro hF
       refine take_fp 6 [7, 10, 11, 12, 13, 14, 15, 16, 17, 18, 19, 20, 21, 22, 23, 24, 25, 26, 27, 28, 29, 30, 31, 32, 33, 34, 35] (oi := { dst := some 63, op := Op.fieldAddr 26 (Operand.tmp 6) 2, type := 0, pos := "ref.go:70", after := #[{ on := 5, ground := Ground.guard }], guard := some (5, true) }) (d := 63) (v := .pointer (some ⟨kb, 2, none⟩)) hF hS rfl rfl (by decide) (by kernel_rfl) (by kernel_rfl) (by kernel_rfl) (by kernel_rfl) (fun _ _ _ h => h) (fun a' hA => hA.wantedB (j := 5) (dj := 62) (b := true) rfl (by kernel_rfl) (by decide) rfl) (fun a' hA w' hw => by have e6 := hA.get 6 rfl; have ec : ∀ v, a'.eval (.const v) = v := fun _ => rfl; clear hA; generalize a'.eval = ρ at *; simp [go_sem, ec, e6]; try rfl) ?_
       clear hF
       intro hF
       refine take_fp 7 [10, 11, 12, 13, 14, 15, 16, 17, 18, 19, 20, 21, 22, 23, 24, 25, 26, 27, 28, 29, 30, 31, 32, 33, 34, 35] (oi := { dst := some 64, op := Op.load 3 (Operand.tmp 63), type := 3, pos := "ref.go:70", after := #[{ on := 6, ground := Ground.data }, { on := 5, ground := Ground.guard }], guard := some (5, true) }) (d := 64) (v := .int .i64 y.h.f) hF hS rfl rfl (by decide) (by kernel_rfl) (by kernel_rfl) (by kernel_rfl) (by kernel_rfl) (fun _ _ _ h => h) (fun a' hA => hA.wantedB (j := 5) (dj := 62) (b := true) rfl (by kernel_rfl) (by decide) rfl) (fun a' hA w' hw => by have e63 := hA.get 63 rfl; have ec : ∀ v, a'.eval (.const v) = v := fun _ => rfl; have q0 := (hw.cell (p := ⟨kb, 2, none⟩) HKL.out).trans (HKB.out 2 _ rfl); clear hA; generalize a'.eval = ρ at *; simp [go_sem, ec, e63, q0]; try rfl) ?_
       clear hF
       intro hF
       refine take_fp 8 [9, 10, 11, 12, 13, 14, 15, 16, 17, 18, 19, 20, 21, 22, 23, 24, 25, 26, 27, 28, 29, 30, 31, 32, 33, 34, 35] (oi := { dst := some 65, op := Op.fieldAddr 26 (Operand.tmp 1) 2, type := 0, pos := "ref.go:70", after := #[{ on := 5, ground := Ground.guard }], guard := some (5, true) }) (d := 65) (v := .pointer (some ⟨w.heap.size, 2, none⟩)) hF hS rfl rfl (by decide) (by kernel_rfl) (by kernel_rfl) (by kernel_rfl) (by kernel_rfl) (fun _ _ _ h => h) (fun a' hA => hA.wantedB (j := 5) (dj := 62) (b := true) rfl (by kernel_rfl) (by decide) rfl) (fun a' hA w' hw => by have e1 := hA.get 1 rfl; have ec : ∀ v, a'.eval (.const v) = v := fun _ => rfl; clear hA; generalize a'.eval = ρ at *; simp [go_sem, ec, e1]; try rfl) ?_
       clear hF
       intro hF
       refine take_fp 9 [10, 11, 12, 13, 14, 15, 16, 17, 18, 19, 20, 21, 22, 23, 24, 25, 26, 27, 28, 29, 30, 31, 32, 33, 34, 35] (oi := { dst := some 66, op := Op.load 3 (Operand.tmp 65), type := 3, pos := "ref.go:70", after := #[{ on := 8, ground := Ground.data }, { on := 5, ground := Ground.guard }], guard := some (5, true) }) (d := 66) (v := .int .i64 hf) hF hS rfl rfl (by decide) (by kernel_rfl) (by kernel_rfl) (by kernel_rfl) (by kernel_rfl) (fun _ _ _ h => h) (fun a' hA => hA.wantedB (j := 5) (dj := 62) (b := true) rfl (by kernel_rfl) (by decide) rfl) (fun a' hA w' hw => by have e65 := hA.get 65 rfl; have ec : ∀ v, a'.eval (.const v) = v := fun _ => rfl; have q0 := (hw.cell (p := ⟨w.heap.size, 2, none⟩) HL1.out).trans HQ2.out; clear hA; generalize a'.eval = ρ at *; simp [go_sem, ec, e65, q0]; try rfl) ?_
       clear hF
       intro hF
       refine take_fp 10 [11, 12, 13, 14, 15, 16, 17, 18, 19, 20, 21, 22, 23, 24, 25, 26, 27, 28, 29, 30, 31, 32, 33, 34, 35] (oi := { dst := some 67, op := Op.binOp BinOp.geq 3 (Operand.tmp 64) (Operand.tmp 66) 3, type := 4, pos := "ref.go:70", after := #[{ on := 7, ground := Ground.data }, { on := 9, ground := Ground.data }, { on := 5, ground := Ground.guard }], guard := some (5, true) }) (d := 67) (v := .bool true) hF hS rfl rfl (by decide) (by kernel_rfl) (by kernel_rfl) (by kernel_rfl) (by kernel_rfl) (fun _ _ _ h => h) (fun a' hA => hA.wantedB (j := 5) (dj := 62) (b := true) rfl (by kernel_rfl) (by decide) rfl) (fun a' hA w' hw => by have e64 := hA.get 64 rfl; have e66 := hA.get 66 rfl; have ec : ∀ v, a'.eval (.const v) = v := fun _ => rfl; clear hA; generalize a'.eval = ρ at *; simp [go_sem, ec, e64, e66, c1]; try rfl) ?_
       clear hF
       intro hF
       refine take_fp 11 [12, 13, 14, 15, 16, 17, 18, 19, 20, 21, 22, 23, 24, 25, 26, 27, 28, 29, 30, 31, 32, 33, 34, 35] (oi := { dst := some 68, op := Op.pick (Operand.tmp 62) (Operand.tmp 67) (Operand.const (Value.bool false)), type := 4, pos := "ref.go:70", after := #[{ on := 5, ground := Ground.data }, { on := 10, ground := Ground.data }], guard := none }) (d := 68) (v := .bool true) hF hS rfl rfl (by decide) (by kernel_rfl) (by kernel_rfl) (by kernel_rfl) (by kernel_rfl) (fun _ _ _ h => h) (fun a' hA => wanted_none rfl) (fun a' hA w' hw => by have e62 := hA.get 62 rfl; have e67 := hA.get 67 rfl; have ec : ∀ v, a'.eval (.const v) = v := fun _ => rfl; clear hA; generalize a'.eval = ρ at *; simp [go_sem, ec, e62, e67]; try rfl) ?_
       clear hF
       intro hF
       refine take_fp 12 [13, 14, 15, 16, 17, 18, 19, 20, 21, 22, 23, 24, 25, 26, 27, 28, 29, 30, 31, 32, 33, 34, 35] (oi := { dst := some 69, op := Op.move (Operand.tmp 68), type := 4, pos := "ref.go:70", after := #[{ on := 11, ground := Ground.data }, { on := 5, ground := Ground.chain }], guard := none }) (d := 69) (v := .bool true) hF hS rfl rfl (by decide) (by kernel_rfl) (by kernel_rfl) (by kernel_rfl) (by kernel_rfl) (fun _ _ _ h => h) (fun a' hA => wanted_none rfl) (run_move_fs rfl rfl) ?_
       clear hF
       intro hF
       refine take_fp 13 [14, 17, 18, 19, 20, 21, 22, 23, 24, 25, 26, 27, 28, 29, 30, 31, 32, 33, 34, 35] (oi := { dst := some 70, op := Op.fieldAddr 26 (Operand.tmp 6) 3, type := 0, pos := "ref.go:70", after := #[{ on := 12, ground := Ground.guard }], guard := some (12, true) }) (d := 70) (v := .pointer (some ⟨kb, 3, none⟩)) hF hS rfl rfl (by decide) (by kernel_rfl) (by kernel_rfl) (by kernel_rfl) (by kernel_rfl) (fun _ _ _ h => h) (fun a' hA => hA.wantedB (j := 12) (dj := 69) (b := true) rfl (by kernel_rfl) (by decide) rfl) (fun a' hA w' hw => by have e6 := hA.get 6 rfl; have ec : ∀ v, a'.eval (.const v) = v := fun _ => rfl; clear hA; generalize a'.eval = ρ at *; simp [go_sem, ec, e6]; try rfl) ?_
       clear hF
       intro hF
       refine take_fp 14 [17, 18, 19, 20, 21, 22, 23, 24, 25, 26, 27, 28, 29, 30, 31, 32, 33, 34, 35] (oi := { dst := some 71, op := Op.load 3 (Operand.tmp 70), type := 3, pos := "ref.go:70", after := #[{ on := 13, ground := Ground.data }, { on := 12, ground := Ground.guard }], guard := some (12, true) }) (d := 71) (v := .int .i64 y.h.t) hF hS rfl rfl (by decide) (by kernel_rfl) (by kernel_rfl) (by kernel_rfl) (by kernel_rfl) (fun _ _ _ h => h) (fun a' hA => hA.wantedB (j := 12) (dj := 69) (b := true) rfl (by kernel_rfl) (by decide) rfl) (fun a' hA w' hw => by have e70 := hA.get 70 rfl; have ec : ∀ v, a'.eval (.const v) = v := fun _ => rfl; have q0 := (hw.cell (p := ⟨kb, 3, none⟩) HKL.out).trans (HKB.out 3 _ rfl); clear hA; generalize a'.eval = ρ at *; simp [go_sem, ec, e70, q0]; try rfl) ?_
       clear hF
       intro hF
       refine take_fp 15 [16, 17, 18, 19, 20, 21, 22, 23, 24, 25, 26, 27, 28, 29, 30, 31, 32, 33, 34, 35] (oi := { dst := some 72, op := Op.fieldAddr 26 (Operand.tmp 1) 3, type := 0, pos := "ref.go:70", after := #[{ on := 12, ground := Ground.guard }], guard := some (12, true) }) (d := 72) (v := .pointer (some ⟨w.heap.size, 3, none⟩)) hF hS rfl rfl (by decide) (by kernel_rfl) (by kernel_rfl) (by kernel_rfl) (by kernel_rfl) (fun _ _ _ h => h) (fun a' hA => hA.wantedB (j := 12) (dj := 69) (b := true) rfl (by kernel_rfl) (by decide) rfl) (fun a' hA w' hw => by have e1 := hA.get 1 rfl; have ec : ∀ v, a'.eval (.const v) = v := fun _ => rfl; clear hA; generalize a'.eval = ρ at *; simp [go_sem, ec, e1]; try rfl) ?_
       clear hF
       intro hF
       refine take_fp 16 [17, 18, 19, 20, 21, 22, 23, 24, 25, 26, 27, 28, 29, 30, 31, 32, 33, 34, 35] (oi := { dst := some 73, op := Op.load 3 (Operand.tmp 72), type := 3, pos := "ref.go:70", after := #[{ on := 15, ground := Ground.data }, { on := 12, ground := Ground.guard }], guard := some (12, true) }) (d := 73) (v := .int .i64 ht) hF hS rfl rfl (by decide) (by kernel_rfl) (by kernel_rfl) (by kernel_rfl) (by kernel_rfl) (fun _ _ _ h => h) (fun a' hA => hA.wantedB (j := 12) (dj := 69) (b := true) rfl (by kernel_rfl) (by decide) rfl) (fun a' hA w' hw => by have e72 := hA.get 72 rfl; have ec : ∀ v, a'.eval (.const v) = v := fun _ => rfl; have q0 := (hw.cell (p := ⟨w.heap.size, 3, none⟩) HL1.out).trans HQ3.out; clear hA; generalize a'.eval = ρ at *; simp [go_sem, ec, e72, q0]; try rfl) ?_
       clear hF
       intro hF
       refine take_fp 17 [18, 19, 20, 21, 22, 23, 24, 25, 26, 27, 28, 29, 30, 31, 32, 33, 34, 35] (oi := { dst := some 74, op := Op.binOp BinOp.leq 3 (Operand.tmp 71) (Operand.tmp 73) 3, type := 4, pos := "ref.go:70", after := #[{ on := 14, ground := Ground.data }, { on := 16, ground := Ground.data }, { on := 12, ground := Ground.guard }], guard := some (12, true) }) (d := 74) (v := .bool true) hF hS rfl rfl (by decide) (by kernel_rfl) (by kernel_rfl) (by kernel_rfl) (by kernel_rfl) (fun _ _ _ h => h) (fun a' hA => hA.wantedB (j := 12) (dj := 69) (b := true) rfl (by kernel_rfl) (by decide) rfl) (fun a' hA w' hw => by have e71 := hA.get 71 rfl; have e73 := hA.get 73 rfl; have ec : ∀ v, a'.eval (.const v) = v := fun _ => rfl; clear hA; generalize a'.eval = ρ at *; simp [go_sem, ec, e71, e73, c2]; try rfl) ?_
       clear hF
       intro hF
       refine take_fp 18 [19, 20, 21, 22, 23, 24, 25, 26, 27, 28, 29, 30, 31, 32, 33, 34, 35] (oi := { dst := some 75, op := Op.pick (Operand.tmp 69) (Operand.tmp 74) (Operand.const (Value.bool false)), type := 4, pos := "ref.go:70", after := #[{ on := 12, ground := Ground.data }, { on := 17, ground := Ground.data }], guard := none }) (d := 75) (v := .bool true) hF hS rfl rfl (by decide) (by kernel_rfl) (by kernel_rfl) (by kernel_rfl) (by kernel_rfl) (fun _ _ _ h => h) (fun a' hA => wanted_none rfl) (fun a' hA w' hw => by have e69 := hA.get 69 rfl; have e74 := hA.get 74 rfl; have ec : ∀ v, a'.eval (.const v) = v := fun _ => rfl; clear hA; generalize a'.eval = ρ at *; simp [go_sem, ec, e69, e74]; try rfl) ?_
       clear hF
       intro hF
       refine take_fp 19 [20, 21, 22, 23, 24, 25, 26, 27, 28, 29, 30, 31, 32, 33, 34, 35] (oi := { dst := some 76, op := Op.move (Operand.tmp 75), type := 4, pos := "ref.go:70", after := #[{ on := 18, ground := Ground.data }, { on := 12, ground := Ground.chain }], guard := none }) (d := 76) (v := .bool true) hF hS rfl rfl (by decide) (by kernel_rfl) (by kernel_rfl) (by kernel_rfl) (by kernel_rfl) (fun _ _ _ h => h) (fun a' hA => wanted_none rfl) (run_move_fs rfl rfl) ?_
       clear hF
       intro hF
       refine take_fp 20 [21, 22, 23, 24, 25, 26, 27, 28, 29, 30, 31, 32, 33, 34, 35] (oi := { dst := some 77, op := Op.move (Operand.tmp 5), type := 3, pos := "ref.go:70", after := #[{ on := 19, ground := Ground.guard }], guard := some (19, true) }) (d := 77) (v := .int .i64 (k : Int)) hF hS rfl rfl (by decide) (by kernel_rfl) (by kernel_rfl) (by kernel_rfl) (by kernel_rfl) (fun _ _ _ h => h) (fun a' hA => hA.wantedB (j := 19) (dj := 76) (b := true) rfl (by kernel_rfl) (by decide) rfl) (run_move_fs rfl rfl) ?_
       clear hF
       intro hF
       refine take_fp 21 [22, 23, 24, 25, 26, 27, 28, 29, 30, 31, 32, 33, 34, 35] (oi := { dst := some 78, op := Op.binOp BinOp.eql 3 (Operand.tmp 77) (Operand.const (Value.int IntKind.i64 0)) 3, type := 4, pos := "ref.go:70", after := #[{ on := 20, ground := Ground.data }, { on := 19, ground := Ground.guard }], guard := some (19, true) }) (d := 78) (v := .bool true) hF hS rfl rfl (by decide) (by kernel_rfl) (by kernel_rfl) (by kernel_rfl) (by kernel_rfl) (fun _ _ _ h => h) (fun a' hA => hA.wantedB (j := 19) (dj := 76) (b := true) rfl (by kernel_rfl) (by decide) rfl) (fun a' hA w' hw => by have e77 := hA.get 77 rfl; have ec : ∀ v, a'.eval (.const v) = v := fun _ => rfl; clear hA; generalize a'.eval = ρ at *; simp [go_sem, ec, e77, hkz, hkz2]; try rfl) ?_
       clear hF
       intro hF
       refine take_fp 22 [23, 24, 25, 26, 27, 28, 29, 30, 31, 32, 33, 34, 35] (oi := { dst := some 79, op := Op.move (Operand.tmp 78), type := 4, pos := "ref.go:70", after := #[{ on := 21, ground := Ground.data }, { on := 19, ground := Ground.chain }, { on := 19, ground := Ground.guard }], guard := some (19, true) }) (d := 79) (v := .bool true) hF hS rfl rfl (by decide) (by kernel_rfl) (by kernel_rfl) (by kernel_rfl) (by kernel_rfl) (fun _ _ _ h => h) (fun a' hA => hA.wantedB (j := 19) (dj := 76) (b := true) rfl (by kernel_rfl) (by decide) rfl) (run_move_fs rfl rfl) ?_
       clear hF
       intro hF
       refine skip_fp 23 [24, 32, 33, 34, 35] (oi := { dst := some 80, op := Op.fieldAddr 26 (Operand.tmp 6) 2, type := 0, pos := "ref.go:70", after := #[{ on := 22, ground := Ground.guard }], guard := some (22, false) }) (d := 80) hF hS rfl rfl (by decide) (by kernel_rfl) (by kernel_rfl) (by kernel_rfl) (by kernel_rfl) (fun _ _ _ h => h) (fun a' hA => hA.unwanted (j := 22) (dj := 79) (b := false) (v := .bool true) rfl (by kernel_rfl) (by decide) rfl (by intro h; cases h)) ?_
       clear hF
       intro hF
       refine skip_fp 24 [32, 33, 34, 35] (oi := { dst := some 81, op := Op.load 3 (Operand.tmp 80), type := 3, pos := "ref.go:70", after := #[{ on := 23, ground := Ground.data }, { on := 22, ground := Ground.guard }], guard := some (22, false) }) (d := 81) hF hS rfl rfl (by decide) (by kernel_rfl) (by kernel_rfl) (by kernel_rfl) (by kernel_rfl) (fun _ _ _ h => h) (fun a' hA => hA.unwanted (j := 22) (dj := 79) (b := false) (v := .bool true) rfl (by kernel_rfl) (by decide) rfl (by intro h; cases h)) ?_
       clear hF
       intro hF
       refine skip_fp 25 [26, 29, 30, 31, 32, 33, 34, 35] (oi := { dst := some 82, op := Op.fieldAddr 26 (Operand.tmp 1) 5, type := 0, pos := "ref.go:70", after := #[{ on := 22, ground := Ground.guard }], guard := some (22, false) }) (d := 82) hF hS rfl rfl (by decide) (by kernel_rfl) (by kernel_rfl) (by kernel_rfl) (by kernel_rfl) (fun _ _ _ h => h) (fun a' hA => hA.unwanted (j := 22) (dj := 79) (b := false) (v := .bool true) rfl (by kernel_rfl) (by decide) rfl (by intro h; cases h)) ?_
       clear hF
       intro hF
       refine skip_fp 26 [29, 30, 31, 32, 33, 34, 35] (oi := { dst := some 83, op := Op.load 24 (Operand.tmp 82), type := 24, pos := "ref.go:70", after := #[{ on := 25, ground := Ground.data }, { on := 22, ground := Ground.guard }], guard := some (22, false) }) (d := 83) hF hS rfl rfl (by decide) (by kernel_rfl) (by kernel_rfl) (by kernel_rfl) (by kernel_rfl) (fun _ _ _ h => h) (fun a' hA => hA.unwanted (j := 22) (dj := 79) (b := false) (v := .bool true) rfl (by kernel_rfl) (by decide) rfl (by intro h; cases h)) ?_
       clear hF
       intro hF
       refine skip_fp 27 [28, 29, 30, 31, 32, 33, 34, 35] (oi := { dst := some 84, op := Op.move (Operand.tmp 5), type := 3, pos := "ref.go:70", after := #[{ on := 22, ground := Ground.guard }], guard := some (22, false) }) (d := 84) hF hS rfl rfl (by decide) (by kernel_rfl) (by kernel_rfl) (by kernel_rfl) (by kernel_rfl) (fun _ _ _ h => h) (fun a' hA => hA.unwanted (j := 22) (dj := 79) (b := false) (v := .bool true) rfl (by kernel_rfl) (by decide) rfl (by intro h; cases h)) ?_
       clear hF
       intro hF
       refine skip_fp 28 [29, 30, 31, 32, 33, 34, 35] (oi := { dst := some 85, op := Op.binOp BinOp.sub 3 (Operand.tmp 84) (Operand.const (Value.int IntKind.i64 1)) 3, type := 3, pos := "ref.go:70", after := #[{ on := 27, ground := Ground.data }, { on := 22, ground := Ground.guard }], guard := some (22, false) }) (d := 85) hF hS rfl rfl (by decide) (by kernel_rfl) (by kernel_rfl) (by kernel_rfl) (by kernel_rfl) (fun _ _ _ h => h) (fun a' hA => hA.unwanted (j := 22) (dj := 79) (b := false) (v := .bool true) rfl (by kernel_rfl) (by decide) rfl (by intro h; cases h)) ?_
       clear hF
       intro hF
       refine skip_fp 29 [30, 31, 32, 33, 34, 35] (oi := { dst := some 86, op := Op.indexAddr 24 (Operand.tmp 83) (Operand.tmp 85), type := 0, pos := "ref.go:70", after := #[{ on := 26, ground := Ground.data }, { on := 28, ground := Ground.data }, { on := 22, ground := Ground.guard }], guard := some (22, false) }) (d := 86) hF hS rfl rfl (by decide) (by kernel_rfl) (by kernel_rfl) (by kernel_rfl) (by kernel_rfl) (fun _ _ _ h => h) (fun a' hA => hA.unwanted (j := 22) (dj := 79) (b := false) (v := .bool true) rfl (by kernel_rfl) (by decide) rfl (by intro h; cases h)) ?_
       clear hF
       intro hF
       refine skip_fp 30 [31, 32, 33, 34, 35] (oi := { dst := some 87, op := Op.fieldAddr 26 (Operand.tmp 86) 3, type := 0, pos := "ref.go:70", after := #[{ on := 29, ground := Ground.data }, { on := 22, ground := Ground.guard }], guard := some (22, false) }) (d := 87) hF hS rfl rfl (by decide) (by kernel_rfl) (by kernel_rfl) (by kernel_rfl) (by kernel_rfl) (fun _ _ _ h => h) (fun a' hA => hA.unwanted (j := 22) (dj := 79) (b := false) (v := .bool true) rfl (by kernel_rfl) (by decide) rfl (by intro h; cases h)) ?_
       clear hF
       intro hF
       refine skip_fp 31 [32, 33, 34, 35] (oi := { dst := some 88, op := Op.load 3 (Operand.tmp 87), type := 3, pos := "ref.go:70", after := #[{ on := 30, ground := Ground.data }, { on := 22, ground := Ground.guard }], guard := some (22, false) }) (d := 88) hF hS rfl rfl (by decide) (by kernel_rfl) (by kernel_rfl) (by kernel_rfl) (by kernel_rfl) (fun _ _ _ h => h) (fun a' hA => hA.unwanted (j := 22) (dj := 79) (b := false) (v := .bool true) rfl (by kernel_rfl) (by decide) rfl (by intro h; cases h)) ?_
       clear hF
       intro hF
       refine skip_fp 32 [33, 34, 35] (oi := { dst := some 89, op := Op.binOp BinOp.geq 3 (Operand.tmp 81) (Operand.tmp 88) 3, type := 4, pos := "ref.go:70", after := #[{ on := 24, ground := Ground.data }, { on := 31, ground := Ground.data }, { on := 22, ground := Ground.guard }], guard := some (22, false) }) (d := 89) hF hS rfl rfl (by decide) (by kernel_rfl) (by kernel_rfl) (by kernel_rfl) (by kernel_rfl) (fun _ _ _ h => h) (fun a' hA => hA.unwanted (j := 22) (dj := 79) (b := false) (v := .bool true) rfl (by kernel_rfl) (by decide) rfl (by intro h; cases h)) ?_
       clear hF
       intro hF
       refine take_fp 33 [34, 35] (oi := { dst := some 90, op := Op.pick (Operand.tmp 79) (Operand.const (Value.bool true)) (Operand.tmp 89), type := 4, pos := "ref.go:70", after := #[{ on := 22, ground := Ground.data }, { on := 32, ground := Ground.data }, { on := 19, ground := Ground.guard }], guard := some (19, true) }) (d := 90) (v := .bool true) hF hS rfl rfl (by decide) (by kernel_rfl) (by kernel_rfl) (by kernel_rfl) (by kernel_rfl) (fun _ _ _ h => h) (fun a' hA => hA.wantedB (j := 19) (dj := 76) (b := true) rfl (by kernel_rfl) (by decide) rfl) (fun a' hA w' hw => by have e79 := hA.get 79 rfl; have e89 := hA.get 89 rfl; have ec : ∀ v, a'.eval (.const v) = v := fun _ => rfl; clear hA; generalize a'.eval = ρ at *; simp [go_sem, ec, e79, e89]; try rfl) ?_
       clear hF
       intro hF
       refine take_fp 34 [35] (oi := { dst := some 91, op := Op.pick (Operand.tmp 76) (Operand.tmp 90) (Operand.const (Value.bool false)), type := 4, pos := "ref.go:70", after := #[{ on := 19, ground := Ground.data }, { on := 33, ground := Ground.data }], guard := none }) (d := 91) (v := .bool true) hF hS rfl rfl (by decide) (by kernel_rfl) (by kernel_rfl) (by kernel_rfl) (by kernel_rfl) (fun _ _ _ h => h) (fun a' hA => wanted_none rfl) (fun a' hA w' hw => by have e76 := hA.get 76 rfl; have e90 := hA.get 90 rfl; have ec : ∀ v, a'.eval (.const v) = v := fun _ => rfl; clear hA; generalize a'.eval = ρ at *; simp [go_sem, ec, e76, e90]; try rfl) ?_
       clear hF
       intro hF
       refine one_fp 35 (oi := { dst := some 3, op := Op.assign (Operand.tmp 91), type := 4, pos := "ref.go:70", after := #[{ on := 34, ground := Ground.data }, { on := 22, ground := Ground.chain }, { on := 0, ground := Ground.phase }, { on := 1, ground := Ground.phase }, { on := 2, ground := Ground.phase }, { on := 3, ground := Ground.phase }, { on := 4, ground := Ground.phase }, { on := 5, ground := Ground.phase }, { on := 6, ground := Ground.phase }, { on := 7, ground := Ground.phase }, { on := 8, ground := Ground.phase }, { on := 9, ground := Ground.phase }, { on := 10, ground := Ground.phase }, { on := 11, ground := Ground.phase }, { on := 12, ground := Ground.phase }, { on := 13, ground := Ground.phase }, { on := 14, ground := Ground.phase }, { on := 15, ground := Ground.phase }, { on := 16, ground := Ground.phase }, { on := 17, ground := Ground.phase }, { on := 18, ground := Ground.phase }, { on := 19, ground := Ground.phase }, { on := 20, ground := Ground.phase }, { on := 21, ground := Ground.phase }, { on := 22, ground := Ground.phase }, { on := 23, ground := Ground.phase }, { on := 24, ground := Ground.phase }, { on := 25, ground := Ground.phase }, { on := 26, ground := Ground.phase }, { on := 27, ground := Ground.phase }, { on := 28, ground := Ground.phase }, { on := 29, ground := Ground.phase }, { on := 30, ground := Ground.phase }, { on := 31, ground := Ground.phase }, { on := 32, ground := Ground.phase }, { on := 33, ground := Ground.phase }, { on := 34, ground := Ground.phase }], guard := none }) (d := 3) (v := .bool true) hF rfl rfl (by decide) (by kernel_rfl) (by kernel_rfl) (fun a' hA => wanted_none rfl) (fun a' hA => by have e91 := hA.get 91 rfl; have ec : ∀ v, a'.eval (.const v) = v := fun _ => rfl; clear hA; generalize a'.eval = ρ at *; simp [go_sem, ec, e91]; try rfl) ?_
       clear hF
       intro hF
       refine wpTill_done (by kernel_rfl) ?_ _
       subst ha0
       simp only [Act.put, List.setIfInBounds_toArray, List.set_cons_zero, List.set_cons_succ]
       have HBW := Lib.hid (HBE.out.trans (hS.mono HBE.out.size))
       clear hF hS hkz hkz2
       go_wp2_with fail
       go_roundw
       case rel => exact ⟨k + 1, by omega, by go_num, rfl, HBW.out⟩
       case measure => simp [intOf]; omega
      ·obtain ⟨i1, hi1'⟩ : ∃ i1, k = i1 + 1 := ⟨k - 1, by omega⟩
       have hi1l : i1 < ks.length := by omega
       have hpt := chain_next HR3.out i1 (by simp; omega)
       simp only [List.getElem_map, pb_to, pb_fr] at hpt
       have hkk1 : i1 + 1 < ks.length := by omega
       have hptk : (ks[i1]'hi1l).h.t ≤ ks[k].h.f := by
        have e : ∀ h, ks[i1 + 1]'h = ks[k] := fun h => by simp [hi1']
        rw [e] at hpt; exact hpt
       have HPT0 := Lib.hid (fun W (hW : Below w0.heap.size w0 W) => ((HK.out.2.resolve_left (by omega))))
       have HPTC : Hid (∀ W, Below (wr.alloc (BC ks[k].h)).heap.size (wr.alloc (BC ks[k].h)) W → W.cell? ⟨b1, off + i1 * 6 + 3, none⟩ = some (.int .i64 (ks[i1]'hi1l).h.t)) := Lib.hid (fun W hW => by
        obtain ⟨b1', off', he, _, hb1', hkat'⟩ := HK.out.2.resolve_left (by omega)
        injection he with he
        simp only [Addr.mk.injEq, and_true] at he
        obtain ⟨rfl, rfl⟩ := he
        exact ((hkat' i1 hi1l).step hb1' (HBE.out.trans (hW.mono HBE.out.size))).2.2.2.1)
       have H12 := Lib.hid (show (k : Int) - 1 = (i1 : Int) ∧ IntKind.i64.wrap (i1 : Int) = (i1 : Int) ∧ (0 : Int) ≤ (i1 : Int) ∧ (i1 : Int) < (kn : Int) ∧ ¬ (k : Int) = 0 from ⟨by omega, IntWalk.i64_in _ (by omega), by omega, by omega, by omega⟩)
       clear hmem hch hzero hpt hi1' hkk1 HPT0 hbe
       generalize (ks[i1]'hi1l).h.t = pt at *
       generalize ks[k] = y at *
       have H3 := Lib.hid hptk
       clear hptk
       go_wp2_with fail
       obtain ⟨hi1, hi1w, hx1, hx2, hkz⟩ := H12.out
       have hzn : ¬ k = 0 := by omega
       have c3 := H3.out
       generalize wr.heap.size = kb at *
       generalize wr.alloc (BC y.h) = W1 at *
       refine wp_region_till (fun W : World => Below W1.heap.size W1 W) 35 (by kernel_rfl) ?_
       have hS : (fun W : World => Below W1.heap.size W1 W) W1.drew := (Below.refl _ _).drew
       refine start_fp (N := 93) [(1, .pointer (some ⟨w.heap.size, 0, none⟩)), (3, .bool true), (5, .int .i64 (k : Int)), (6, .pointer (some ⟨kb, 0, none⟩))] (Fs.of rfl rfl (by simp [Act.eval])) ?_
       intro a0 ha0 hF
       refine take_fp 0 [1, 2, 3, 4, 5, 6, 7, 8, 9, 10, 11, 12, 13, 14, 15, 16, 17, 18, 19, 20, 21, 22, 23, 24, 25, 26, 27, 28, 29, 30, 31, 32, 33, 34, 35] (oi := { dst := some 57, op := Op.move (Operand.tmp 3), type := 4, pos := "ref.go:70", after := #[], guard := none }) (d := 57) (v := .bool true) hF hS rfl rfl (by decide) (by kernel_rfl) (by kernel_rfl) (by kernel_rfl) (by kernel_rfl) (fun _ _ _ h => h) (fun a' hA => wanted_none rfl) (run_move_fs rfl rfl) ?_
       clear hF
       intro hF
       refine take_fp 1 [2, 3, 4, 5, 6, 7, 8, 9, 10, 11, 12, 13, 14, 15, 16, 17, 18, 19, 20, 21, 22, 23, 24, 25, 26, 27, 28, 29, 30, 31, 32, 33, 34, 35] (oi := { dst := some 58, op := Op.move (Operand.tmp 57), type := 4, pos := "ref.go:70", after := #[{ on := 0, ground := Ground.data }], guard := none }) (d := 58) (v := .bool true) hF hS rfl rfl (by decide) (by kernel_rfl) (by kernel_rfl) (by kernel_rfl) (by kernel_rfl) (fun _ _ _ h => h) (fun a' hA => wanted_none rfl) (run_move_fs rfl rfl) ?_
       clear hF
       intro hF
       refine take_fp 2 [3, 4, 5, 6, 7, 8, 9, 10, 11, 12, 13, 14, 15, 16, 17, 18, 19, 20, 21, 22, 23, 24, 25, 26, 27, 28, 29, 30, 31, 32, 33, 34, 35] (oi := { dst := some 59, op := Op.load 26 (Operand.tmp 6), type := 26, pos := "ref.go:70", after := #[{ on := 1, ground := Ground.guard }], guard := some (1, true) }) (d := 59) (v := .agg #[.int .i64 y.h.k, .int .i64 y.h.m, .int .i64 y.h.f, .int .i64 y.h.t, .slice y.h.np y.h.nn y.h.nc, .slice y.h.kp y.h.kn y.h.kc]) hF hS rfl rfl (by decide) (by kernel_rfl) (by kernel_rfl) (by kernel_rfl) (by kernel_rfl) (fun _ _ _ h => h) (fun a' hA => hA.wantedB (j := 1) (dj := 58) (b := true) rfl (by kernel_rfl) (by decide) rfl) (fun a' hA w' hw => by have e6 := hA.get 6 rfl; have ec : ∀ v, a'.eval (.const v) = v := fun _ => rfl; have q0 := (hw.cell (p := ⟨kb, 0, none⟩) HKL.out).trans (HKB.out 0 _ rfl); have q1 := (hw.cell (p := ⟨kb, 1, none⟩) HKL.out).trans (HKB.out 1 _ rfl); have q2 := (hw.cell (p := ⟨kb, 2, none⟩) HKL.out).trans (HKB.out 2 _ rfl); have q3 := (hw.cell (p := ⟨kb, 3, none⟩) HKL.out).trans (HKB.out 3 _ rfl); have q4 := (hw.cell (p := ⟨kb, 4, none⟩) HKL.out).trans (HKB.out 4 _ rfl); have q5 := (hw.cell (p := ⟨kb, 5, none⟩) HKL.out).trans (HKB.out 5 _ rfl); clear hA; generalize a'.eval = ρ at *; simp [go_sem, ec, e6, q0, q1, q2, q3, q4, q5]; try rfl) ?_
       clear hF
       intro hF
       refine call_fp 3 (oi := { dst := some 60, op := Op.call { callee := Callee.value (Operand.func 27), args := #[Operand.tmp 59], argTypes := #[26] }, type := 4, pos := "ref.go:70", after := #[{ on := 2, ground := Ground.data }, { on := 1, ground := Ground.chain }, { on := 1, ground := Ground.guard }], guard := some (1, true) }) (d := 60) (R := fun e w' => e = .returned (.bool true) ∧ Below W1.heap.size W1 w') hF rfl rfl (by decide) (by kernel_rfl) (fun a' hA => hA.wantedB (j := 1) (dj := 58) (b := true) rfl (by kernel_rfl) (by decide) rfl) (fun a' hA => by have e59 := hA.get 59 rfl; have ef : ∀ f, a'.eval (.func f) = .func (.func f) #[] #[] := fun _ => rfl; have ec : ∀ v, a'.eval (.const v) = v := fun _ => rfl; clear hA; generalize a'.eval = ρ at *; simp [go_sem, ef, ec, e59]) ((HX.out _ hS).mono (by rintro e w' ⟨rfl, hb⟩; exact ⟨rfl, hS.trans (hb.mono hS.size)⟩)) (by rintro w' ⟨h, _⟩; cases h) (by rintro ch w' ⟨h, _⟩; cases h) ?_
       rintro v3 w3x ⟨h, hb⟩
       have h := Ending.returned.inj h
       subst h
       refine ⟨fun _ => hb, ?_⟩
       clear hS
       have hS : (fun W : World => Below W1.heap.size W1 W) w3x := hb
       clear hb hF
       intro hF
       refine take_fp 4 [5, 6, 7, 8, 9, 10, 11, 12, 13, 14, 15, 16, 17, 18, 19, 20, 21, 22, 23, 24, 25, 26, 27, 28, 29, 30, 31, 32, 33, 34, 35] (oi := { dst := some 61, op := Op.pick (Operand.tmp 58) (Operand.tmp 60) (Operand.const (Value.bool false)), type := 4, pos := "ref.go:70", after := #[{ on := 1, ground := Ground.data }, { on := 3, ground := Ground.data }], guard := none }) (d := 61) (v := .bool true) hF hS rfl rfl (by decide) (by kernel_rfl) (by kernel_rfl) (by kernel_rfl) (by kernel_rfl) (fun _ _ _ h => h) (fun a' hA => wanted_none rfl) (fun a' hA w' hw => by have e58 := hA.get 58 rfl; have e60 := hA.get 60 rfl; have ec : ∀ v, a'.eval (.const v) = v := fun _ => rfl; clear hA; generalize a'.eval = ρ at *; simp [go_sem, ec, e58, e60]; try rfl) ?_
       clear hF
       intro hF
       refine take_fp 5 [6, 7, 8, 9, 10, 11, 12, 13, 14, 15, 16, 17, 18, 19, 20, 21, 22, 23, 24, 25, 26, 27, 28, 29, 30, 31, 32, 33, 34, 35] (oi := { dst := some 62, op := Op.move (Operand.tmp 61), type := 4, pos := "ref.go:70", after := #[{ on := 4, ground := Ground.data }, { on := 3, ground := Ground.chain }], guard := none }) (d := 62) (v := .bool true) hF hS rfl rfl (by decide) (by kernel_rfl) (by kernel_rfl) (by kernel_rfl) (by kernel_rfl) (fun _ _ _ h => h) (fun a' hA => wanted_none rfl) (run_move_fs rfl rfl) ?_
       clear hF
       intro hF
       refine take_fp 6 [7, 10, 11, 12, 13, 14, 15, 16, 17, 18, 19, 20, 21, 22, 23, 24, 25, 26, 27, 28, 29, 30, 31, 32, 33, 34, 35] (oi := { dst := some 63, op := Op.fieldAddr 26 (Operand.tmp 6) 2, type := 0, pos := "ref.go:70", after := #[{ on := 5, ground := Ground.guard }], guard := some (5, true) }) (d := 63) (v := .pointer (some ⟨kb, 2, none⟩)) hF hS rfl rfl (by decide) (by kernel_rfl) (by kernel_rfl) (by kernel_rfl) (by kernel_rfl) (fun _ _ _ h => h) (fun a' hA => hA.wantedB (j := 5) (dj := 62) (b := true) rfl (by kernel_rfl) (by decide) rfl) (fun a' hA w' hw => by have e6 := hA.get 6 rfl; have ec : ∀ v, a'.eval (.const v) = v := fun _ => rfl; clear hA; generalize a'.eval = ρ at *; simp [go_sem, ec, e6]; try rfl) ?_
       clear hF
       intro hF
       refine take_fp 7 [10, 11, 12, 13, 14, 15, 16, 17, 18, 19, 20, 21, 22, 23, 24, 25, 26, 27, 28, 29, 30, 31, 32, 33, 34, 35] (oi := { dst := some 64, op := Op.load 3 (Operand.tmp 63), type := 3, pos := "ref.go:70", after := #[{ on := 6, ground := Ground.data }, { on := 5, ground := Ground.guard }], guard := some (5, true) }) (d := 64) (v := .int .i64 y.h.f) hF hS rfl rfl (by decide) (by kernel_rfl) (by kernel_rfl) (by kernel_rfl) (by kernel_rfl) (fun _ _ _ h => h) (fun a' hA => hA.wantedB (j := 5) (dj := 62) (b := true) rfl (by kernel_rfl) (by decide) rfl) (fun a' hA w' hw => by have e63 := hA.get 63 rfl; have ec : ∀ v, a'.eval (.const v) = v := fun _ => rfl; have q0 := (hw.cell (p := ⟨kb, 2, none⟩) HKL.out).trans (HKB.out 2 _ rfl); clear hA; generalize a'.eval = ρ at *; simp [go_sem, ec, e63, q0]; try rfl) ?_
       clear hF
       intro hF
       refine take_fp 8 [9, 10, 11, 12, 13, 14, 15, 16, 17, 18, 19, 20, 21, 22, 23, 24, 25, 26, 27, 28, 29, 30, 31, 32, 33, 34, 35] (oi := { dst := some 65, op := Op.fieldAddr 26 (Operand.tmp 1) 2, type := 0, pos := "ref.go:70", after := #[{ on := 5, ground := Ground.guard }], guard := some (5, true) }) (d := 65) (v := .pointer (some ⟨w.heap.size, 2, none⟩)) hF hS rfl rfl (by decide) (by kernel_rfl) (by kernel_rfl) (by kernel_rfl) (by kernel_rfl) (fun _ _ _ h => h) (fun a' hA => hA.wantedB (j := 5) (dj := 62) (b := true) rfl (by kernel_rfl) (by decide) rfl) (fun a' hA w' hw => by have e1 := hA.get 1 rfl; have ec : ∀ v, a'.eval (.const v) = v := fun _ => rfl; clear hA; generalize a'.eval = ρ at *; simp [go_sem, ec, e1]; try rfl) ?_
       clear hF
       intro hF
       refine take_fp 9 [10, 11, 12, 13, 14, 15, 16, 17, 18, 19, 20, 21, 22, 23, 24, 25, 26, 27, 28, 29, 30, 31, 32, 33, 34, 35] (oi := { dst := some 66, op := Op.load 3 (Operand.tmp 65), type := 3, pos := "ref.go:70", after := #[{ on := 8, ground := Ground.data }, { on := 5, ground := Ground.guard }], guard := some (5, true) }) (d := 66) (v := .int .i64 hf) hF hS rfl rfl (by decide) (by kernel_rfl) (by kernel_rfl) (by kernel_rfl) (by kernel_rfl) (fun _ _ _ h => h) (fun a' hA => hA.wantedB (j := 5) (dj := 62) (b := true) rfl (by kernel_rfl) (by decide) rfl) (fun a' hA w' hw => by have e65 := hA.get 65 rfl; have ec : ∀ v, a'.eval (.const v) = v := fun _ => rfl; have q0 := (hw.cell (p := ⟨w.heap.size, 2, none⟩) HL1.out).trans HQ2.out; clear hA; generalize a'.eval = ρ at *; simp [go_sem, ec, e65, q0]; try rfl) ?_
       clear hF
       intro hF
       refine take_fp 10 [11, 12, 13, 14, 15, 16, 17, 18, 19, 20, 21, 22, 23, 24, 25, 26, 27, 28, 29, 30, 31, 32, 33, 34, 35] (oi := { dst := some 67, op := Op.binOp BinOp.geq 3 (Operand.tmp 64) (Operand.tmp 66) 3, type := 4, pos := "ref.go:70", after := #[{ on := 7, ground := Ground.data }, { on := 9, ground := Ground.data }, { on := 5, ground := Ground.guard }], guard := some (5, true) }) (d := 67) (v := .bool true) hF hS rfl rfl (by decide) (by kernel_rfl) (by kernel_rfl) (by kernel_rfl) (by kernel_rfl) (fun _ _ _ h => h) (fun a' hA => hA.wantedB (j := 5) (dj := 62) (b := true) rfl (by kernel_rfl) (by decide) rfl) (fun a' hA w' hw => by have e64 := hA.get 64 rfl; have e66 := hA.get 66 rfl; have ec : ∀ v, a'.eval (.const v) = v := fun _ => rfl; clear hA; generalize a'.eval = ρ at *; simp [go_sem, ec, e64, e66, c1]; try rfl) ?_
       clear hF
       intro hF
       refine take_fp 11 [12, 13, 14, 15, 16, 17, 18, 19, 20, 21, 22, 23, 24, 25, 26, 27, 28, 29, 30, 31, 32, 33, 34, 35] (oi := { dst := some 68, op := Op.pick (Operand.tmp 62) (Operand.tmp 67) (Operand.const (Value.bool false)), type := 4, pos := "ref.go:70", after := #[{ on := 5, ground := Ground.data }, { on := 10, ground := Ground.data }], guard := none }) (d := 68) (v := .bool true) hF hS rfl rfl (by decide) (by kernel_rfl) (by kernel_rfl) (by kernel_rfl) (by kernel_rfl) (fun _ _ _ h => h) (fun a' hA => wanted_none rfl) (fun a' hA w' hw => by have e62 := hA.get 62 rfl; have e67 := hA.get 67 rfl; have ec : ∀ v, a'.eval (.const v) = v := fun _ => rfl; clear hA; generalize a'.eval = ρ at *; simp [go_sem, ec, e62, e67]; try rfl) ?_
       clear hF
       intro hF
       refine take_fp 12 [13, 14, 15, 16, 17, 18, 19, 20, 21, 22, 23, 24, 25, 26, 27, 28, 29, 30, 31, 32, 33, 34, 35] (oi := { dst := some 69, op := Op.move (Operand.tmp 68), type := 4, pos := "ref.go:70", after := #[{ on := 11, ground := Ground.data }, { on := 5, ground := Ground.chain }], guard := none }) (d := 69) (v := .bool true) hF hS rfl rfl (by decide) (by kernel_rfl) (by kernel_rfl) (by kernel_rfl) (by kernel_rfl) (fun _ _ _ h => h) (fun a' hA => wanted_none rfl) (run_move_fs rfl rfl) ?_
       clear hF
       intro hF
       refine take_fp 13 [14, 17, 18, 19, 20, 21, 22, 23, 24, 25, 26, 27, 28, 29, 30, 31, 32, 33, 34, 35] (oi := { dst := some 70, op := Op.fieldAddr 26 (Operand.tmp 6) 3, type := 0, pos := "ref.go:70", after := #[{ on := 12, ground := Ground.guard }], guard := some (12, true) }) (d := 70) (v := .pointer (some ⟨kb, 3, none⟩)) hF hS rfl rfl (by decide) (by kernel_rfl) (by kernel_rfl) (by kernel_rfl) (by kernel_rfl) (fun _ _ _ h => h) (fun a' hA => hA.wantedB (j := 12) (dj := 69) (b := true) rfl (by kernel_rfl) (by decide) rfl) (fun a' hA w' hw => by have e6 := hA.get 6 rfl; have ec : ∀ v, a'.eval (.const v) = v := fun _ => rfl; clear hA; generalize a'.eval = ρ at *; simp [go_sem, ec, e6]; try rfl) ?_
       clear hF
       intro hF
       refine take_fp 14 [17, 18, 19, 20, 21, 22, 23, 24, 25, 26, 27, 28, 29, 30, 31, 32, 33, 34, 35] (oi := { dst := some 71, op := Op.load 3 (Operand.tmp 70), type := 3, pos := "ref.go:70", after := #[{ on := 13, ground := Ground.data }, { on := 12, ground := Ground.guard }], guard := some (12, true) }) (d := 71) (v := .int .i64 y.h.t) hF hS rfl rfl (by decide) (by kernel_rfl) (by kernel_rfl) (by kernel_rfl) (by kernel_rfl) (fun _ _ _ h => h) (fun a' hA => hA.wantedB (j := 12) (dj := 69) (b := true) rfl (by kernel_rfl) (by decide) rfl) (fun a' hA w' hw => by have e70 := hA.get 70 rfl; have ec : ∀ v, a'.eval (.const v) = v := fun _ => rfl; have q0 := (hw.cell (p := ⟨kb, 3, none⟩) HKL.out).trans (HKB.out 3 _ rfl); clear hA; generalize a'.eval = ρ at *; simp [go_sem, ec, e70, q0]; try rfl) ?_
       clear hF
       intro hF
       refine take_fp 15 [16, 17, 18, 19, 20, 21, 22, 23, 24, 25, 26, 27, 28, 29, 30, 31, 32, 33, 34, 35] (oi := { dst := some 72, op := Op.fieldAddr 26 (Operand.tmp 1) 3, type := 0, pos := "ref.go:70", after := #[{ on := 12, ground := Ground.guard }], guard := some (12, true) }) (d := 72) (v := .pointer (some ⟨w.heap.size, 3, none⟩)) hF hS rfl rfl (by decide) (by kernel_rfl) (by kernel_rfl) (by kernel_rfl) (by kernel_rfl) (fun _ _ _ h => h) (fun a' hA => hA.wantedB (j := 12) (dj := 69) (b := true) rfl (by kernel_rfl) (by decide) rfl) (fun a' hA w' hw => by have e1 := hA.get 1 rfl; have ec : ∀ v, a'.eval (.const v) = v := fun _ => rfl; clear hA; generalize a'.eval = ρ at *; simp [go_sem, ec, e1]; try rfl) ?_
       clear hF
       intro hF
       refine take_fp 16 [17, 18, 19, 20, 21, 22, 23, 24, 25, 26, 27, 28, 29, 30, 31, 32, 33, 34, 35] (oi := { dst := some 73, op := Op.load 3 (Operand.tmp 72), type := 3, pos := "ref.go:70", after := #[{ on := 15, ground := Ground.data }, { on := 12, ground := Ground.guard }], guard := some (12, true) }) (d := 73) (v := .int .i64 ht) hF hS rfl rfl (by decide) (by kernel_rfl) (by kernel_rfl) (by kernel_rfl) (by kernel_rfl) (fun _ _ _ h => h) (fun a' hA => hA.wantedB (j := 12) (dj := 69) (b := true) rfl (by kernel_rfl) (by decide) rfl) (fun a' hA w' hw => by have e72 := hA.get 72 rfl; have ec : ∀ v, a'.eval (.const v) = v := fun _ => rfl; have q0 := (hw.cell (p := ⟨w.heap.size, 3, none⟩) HL1.out).trans HQ3.out; clear hA; generalize a'.eval = ρ at *; simp [go_sem, ec, e72, q0]; try rfl) ?_
       clear hF
       intro hF
       refine take_fp 17 [18, 19, 20, 21, 22, 23, 24, 25, 26, 27, 28, 29, 30, 31, 32, 33, 34, 35] (oi := { dst := some 74, op := Op.binOp BinOp.leq 3 (Operand.tmp 71) (Operand.tmp 73) 3, type := 4, pos := "ref.go:70", after := #[{ on := 14, ground := Ground.data }, { on := 16, ground := Ground.data }, { on := 12, ground := Ground.guard }], guard := some (12, true) }) (d := 74) (v := .bool true) hF hS rfl rfl (by decide) (by kernel_rfl) (by kernel_rfl) (by kernel_rfl) (by kernel_rfl) (fun _ _ _ h => h) (fun a' hA => hA.wantedB (j := 12) (dj := 69) (b := true) rfl (by kernel_rfl) (by decide) rfl) (fun a' hA w' hw => by have e71 := hA.get 71 rfl; have e73 := hA.get 73 rfl; have ec : ∀ v, a'.eval (.const v) = v := fun _ => rfl; clear hA; generalize a'.eval = ρ at *; simp [go_sem, ec, e71, e73, c2]; try rfl) ?_
       clear hF
       intro hF
       refine take_fp 18 [19, 20, 21, 22, 23, 24, 25, 26, 27, 28, 29, 30, 31, 32, 33, 34, 35] (oi := { dst := some 75, op := Op.pick (Operand.tmp 69) (Operand.tmp 74) (Operand.const (Value.bool false)), type := 4, pos := "ref.go:70", after := #[{ on := 12, ground := Ground.data }, { on := 17, ground := Ground.data }], guard := none }) (d := 75) (v := .bool true) hF hS rfl rfl (by decide) (by kernel_rfl) (by kernel_rfl) (by kernel_rfl) (by kernel_rfl) (fun _ _ _ h => h) (fun a' hA => wanted_none rfl) (fun a' hA w' hw => by have e69 := hA.get 69 rfl; have e74 := hA.get 74 rfl; have ec : ∀ v, a'.eval (.const v) = v := fun _ => rfl; clear hA; generalize a'.eval = ρ at *; simp [go_sem, ec, e69, e74]; try rfl) ?_
       clear hF
       intro hF
       refine take_fp 19 [20, 21, 22, 23, 24, 25, 26, 27, 28, 29, 30, 31, 32, 33, 34, 35] (oi := { dst := some 76, op := Op.move (Operand.tmp 75), type := 4, pos := "ref.go:70", after := #[{ on := 18, ground := Ground.data }, { on := 12, ground := Ground.chain }], guard := none }) (d := 76) (v := .bool true) hF hS rfl rfl (by decide) (by kernel_rfl) (by kernel_rfl) (by kernel_rfl) (by kernel_rfl) (fun _ _ _ h => h) (fun a' hA => wanted_none rfl) (run_move_fs rfl rfl) ?_
       clear hF
       intro hF
       refine take_fp 20 [21, 22, 23, 24, 25, 26, 27, 28, 29, 30, 31, 32, 33, 34, 35] (oi := { dst := some 77, op := Op.move (Operand.tmp 5), type := 3, pos := "ref.go:70", after := #[{ on := 19, ground := Ground.guard }], guard := some (19, true) }) (d := 77) (v := .int .i64 (k : Int)) hF hS rfl rfl (by decide) (by kernel_rfl) (by kernel_rfl) (by kernel_rfl) (by kernel_rfl) (fun _ _ _ h => h) (fun a' hA => hA.wantedB (j := 19) (dj := 76) (b := true) rfl (by kernel_rfl) (by decide) rfl) (run_move_fs rfl rfl) ?_
       clear hF
       intro hF
       refine take_fp 21 [22, 23, 24, 25, 26, 27, 28, 29, 30, 31, 32, 33, 34, 35] (oi := { dst := some 78, op := Op.binOp BinOp.eql 3 (Operand.tmp 77) (Operand.const (Value.int IntKind.i64 0)) 3, type := 4, pos := "ref.go:70", after := #[{ on := 20, ground := Ground.data }, { on := 19, ground := Ground.guard }], guard := some (19, true) }) (d := 78) (v := .bool false) hF hS rfl rfl (by decide) (by kernel_rfl) (by kernel_rfl) (by kernel_rfl) (by kernel_rfl) (fun _ _ _ h => h) (fun a' hA => hA.wantedB (j := 19) (dj := 76) (b := true) rfl (by kernel_rfl) (by decide) rfl) (fun a' hA w' hw => by have e77 := hA.get 77 rfl; have ec : ∀ v, a'.eval (.const v) = v := fun _ => rfl; clear hA; generalize a'.eval = ρ at *; simp [go_sem, ec, e77, hkz, hzn]; try rfl) ?_
       clear hF
       intro hF
       refine take_fp 22 [23, 24, 25, 26, 27, 28, 29, 30, 31, 32, 33, 34, 35] (oi := { dst := some 79, op := Op.move (Operand.tmp 78), type := 4, pos := "ref.go:70", after := #[{ on := 21, ground := Ground.data }, { on := 19, ground := Ground.chain }, { on := 19, ground := Ground.guard }], guard := some (19, true) }) (d := 79) (v := .bool false) hF hS rfl rfl (by decide) (by kernel_rfl) (by kernel_rfl) (by kernel_rfl) (by kernel_rfl) (fun _ _ _ h => h) (fun a' hA => hA.wantedB (j := 19) (dj := 76) (b := true) rfl (by kernel_rfl) (by decide) rfl) (run_move_fs rfl rfl) ?_
       clear hF
       intro hF
       refine take_fp 23 [24, 32, 33, 34, 35] (oi := { dst := some 80, op := Op.fieldAddr 26 (Operand.tmp 6) 2, type := 0, pos := "ref.go:70", after := #[{ on := 22, ground := Ground.guard }], guard := some (22, false) }) (d := 80) (v := .pointer (some ⟨kb, 2, none⟩)) hF hS rfl rfl (by decide) (by kernel_rfl) (by kernel_rfl) (by kernel_rfl) (by kernel_rfl) (fun _ _ _ h => h) (fun a' hA => hA.wantedB (j := 22) (dj := 79) (b := false) rfl (by kernel_rfl) (by decide) rfl) (fun a' hA w' hw => by have e6 := hA.get 6 rfl; have ec : ∀ v, a'.eval (.const v) = v := fun _ => rfl; clear hA; generalize a'.eval = ρ at *; simp [go_sem, ec, e6]; try rfl) ?_
       clear hF
       intro hF
       refine take_fp 24 [32, 33, 34, 35] (oi := { dst := some 81, op := Op.load 3 (Operand.tmp 80), type := 3, pos := "ref.go:70", after := #[{ on := 23, ground := Ground.data }, { on := 22, ground := Ground.guard }], guard := some (22, false) }) (d := 81) (v := .int .i64 y.h.f) hF hS rfl rfl (by decide) (by kernel_rfl) (by kernel_rfl) (by kernel_rfl) (by kernel_rfl) (fun _ _ _ h => h) (fun a' hA => hA.wantedB (j := 22) (dj := 79) (b := false) rfl (by kernel_rfl) (by decide) rfl) (fun a' hA w' hw => by have e80 := hA.get 80 rfl; have ec : ∀ v, a'.eval (.const v) = v := fun _ => rfl; have q0 := (hw.cell (p := ⟨kb, 2, none⟩) HKL.out).trans (HKB.out 2 _ rfl); clear hA; generalize a'.eval = ρ at *; simp [go_sem, ec, e80, q0]; try rfl) ?_
       clear hF
       intro hF
       refine take_fp 25 [26, 29, 30, 31, 32, 33, 34, 35] (oi := { dst := some 82, op := Op.fieldAddr 26 (Operand.tmp 1) 5, type := 0, pos := "ref.go:70", after := #[{ on := 22, ground := Ground.guard }], guard := some (22, false) }) (d := 82) (v := .pointer (some ⟨w.heap.size, 5, none⟩)) hF hS rfl rfl (by decide) (by kernel_rfl) (by kernel_rfl) (by kernel_rfl) (by kernel_rfl) (fun _ _ _ h => h) (fun a' hA => hA.wantedB (j := 22) (dj := 79) (b := false) rfl (by kernel_rfl) (by decide) rfl) (fun a' hA w' hw => by have e1 := hA.get 1 rfl; have ec : ∀ v, a'.eval (.const v) = v := fun _ => rfl; clear hA; generalize a'.eval = ρ at *; simp [go_sem, ec, e1]; try rfl) ?_
       clear hF
       intro hF
       refine take_fp 26 [29, 30, 31, 32, 33, 34, 35] (oi := { dst := some 83, op := Op.load 24 (Operand.tmp 82), type := 24, pos := "ref.go:70", after := #[{ on := 25, ground := Ground.data }, { on := 22, ground := Ground.guard }], guard := some (22, false) }) (d := 83) (v := .slice (some ⟨b1, off, none⟩) kn kc) hF hS rfl rfl (by decide) (by kernel_rfl) (by kernel_rfl) (by kernel_rfl) (by kernel_rfl) (fun _ _ _ h => h) (fun a' hA => hA.wantedB (j := 22) (dj := 79) (b := false) rfl (by kernel_rfl) (by decide) rfl) (fun a' hA w' hw => by have e82 := hA.get 82 rfl; have ec : ∀ v, a'.eval (.const v) = v := fun _ => rfl; have q0 := (hw.cell (p := ⟨w.heap.size, 5, none⟩) HL1.out).trans HQ5.out; clear hA; generalize a'.eval = ρ at *; simp [go_sem, ec, e82, q0]; try rfl) ?_
       clear hF
       intro hF
       refine take_fp 27 [28, 29, 30, 31, 32, 33, 34, 35] (oi := { dst := some 84, op := Op.move (Operand.tmp 5), type := 3, pos := "ref.go:70", after := #[{ on := 22, ground := Ground.guard }], guard := some (22, false) }) (d := 84) (v := .int .i64 (k : Int)) hF hS rfl rfl (by decide) (by kernel_rfl) (by kernel_rfl) (by kernel_rfl) (by kernel_rfl) (fun _ _ _ h => h) (fun a' hA => hA.wantedB (j := 22) (dj := 79) (b := false) rfl (by kernel_rfl) (by decide) rfl) (run_move_fs rfl rfl) ?_
       clear hF
       intro hF
       refine take_fp 28 [29, 30, 31, 32, 33, 34, 35] (oi := { dst := some 85, op := Op.binOp BinOp.sub 3 (Operand.tmp 84) (Operand.const (Value.int IntKind.i64 1)) 3, type := 3, pos := "ref.go:70", after := #[{ on := 27, ground := Ground.data }, { on := 22, ground := Ground.guard }], guard := some (22, false) }) (d := 85) (v := .int .i64 (i1 : Int)) hF hS rfl rfl (by decide) (by kernel_rfl) (by kernel_rfl) (by kernel_rfl) (by kernel_rfl) (fun _ _ _ h => h) (fun a' hA => hA.wantedB (j := 22) (dj := 79) (b := false) rfl (by kernel_rfl) (by decide) rfl) (fun a' hA w' hw => by have e84 := hA.get 84 rfl; have ec : ∀ v, a'.eval (.const v) = v := fun _ => rfl; clear hA; generalize a'.eval = ρ at *; simp [go_sem, ec, e84, hi1, hi1w]; try rfl) ?_
       clear hF
       intro hF
       refine take_fp 29 [30, 31, 32, 33, 34, 35] (oi := { dst := some 86, op := Op.indexAddr 24 (Operand.tmp 83) (Operand.tmp 85), type := 0, pos := "ref.go:70", after := #[{ on := 26, ground := Ground.data }, { on := 28, ground := Ground.data }, { on := 22, ground := Ground.guard }], guard := some (22, false) }) (d := 86) (v := .pointer (some ⟨b1, off + i1 * 6, none⟩)) hF hS rfl rfl (by decide) (by kernel_rfl) (by kernel_rfl) (by kernel_rfl) (by kernel_rfl) (fun _ _ _ h => h) (fun a' hA => hA.wantedB (j := 22) (dj := 79) (b := false) rfl (by kernel_rfl) (by decide) rfl) (fun a' hA w' hw => by have e83 := hA.get 83 rfl; have e85 := hA.get 85 rfl; have ec : ∀ v, a'.eval (.const v) = v := fun _ => rfl; clear hA; generalize a'.eval = ρ at *; simp [go_sem, ec, e83, e85, hx1, hx2]; try rfl) ?_
       clear hF
       intro hF
       refine take_fp 30 [31, 32, 33, 34, 35] (oi := { dst := some 87, op := Op.fieldAddr 26 (Operand.tmp 86) 3, type := 0, pos := "ref.go:70", after := #[{ on := 29, ground := Ground.data }, { on := 22, ground := Ground.guard }], guard := some (22, false) }) (d := 87) (v := .pointer (some ⟨b1, off + i1 * 6 + 3, none⟩)) hF hS rfl rfl (by decide) (by kernel_rfl) (by kernel_rfl) (by kernel_rfl) (by kernel_rfl) (fun _ _ _ h => h) (fun a' hA => hA.wantedB (j := 22) (dj := 79) (b := false) rfl (by kernel_rfl) (by decide) rfl) (fun a' hA w' hw => by have e86 := hA.get 86 rfl; have ec : ∀ v, a'.eval (.const v) = v := fun _ => rfl; clear hA; generalize a'.eval = ρ at *; simp [go_sem, ec, e86]; try rfl) ?_
       clear hF
       intro hF
       refine take_fp 31 [32, 33, 34, 35] (oi := { dst := some 88, op := Op.load 3 (Operand.tmp 87), type := 3, pos := "ref.go:70", after := #[{ on := 30, ground := Ground.data }, { on := 22, ground := Ground.guard }], guard := some (22, false) }) (d := 88) (v := .int .i64 pt) hF hS rfl rfl (by decide) (by kernel_rfl) (by kernel_rfl) (by kernel_rfl) (by kernel_rfl) (fun _ _ _ h => h) (fun a' hA => hA.wantedB (j := 22) (dj := 79) (b := false) rfl (by kernel_rfl) (by decide) rfl) (fun a' hA w' hw => by have e87 := hA.get 87 rfl; have ec : ∀ v, a'.eval (.const v) = v := fun _ => rfl; have q0 := HPTC.out _ hw; clear hA; generalize a'.eval = ρ at *; simp [go_sem, ec, e87, q0]; try rfl) ?_
       clear hF
       intro hF
       refine take_fp 32 [33, 34, 35] (oi := { dst := some 89, op := Op.binOp BinOp.geq 3 (Operand.tmp 81) (Operand.tmp 88) 3, type := 4, pos := "ref.go:70", after := #[{ on := 24, ground := Ground.data }, { on := 31, ground := Ground.data }, { on := 22, ground := Ground.guard }], guard := some (22, false) }) (d := 89) (v := .bool true) hF hS rfl rfl (by decide) (by kernel_rfl) (by kernel_rfl) (by kernel_rfl) (by kernel_rfl) (fun _ _ _ h => h) (fun a' hA => hA.wantedB (j := 22) (dj := 79) (b := false) rfl (by kernel_rfl) (by decide) rfl) (fun a' hA w' hw => by have e81 := hA.get 81 rfl; have e88 := hA.get 88 rfl; have ec : ∀ v, a'.eval (.const v) = v := fun _ => rfl; clear hA; generalize a'.eval = ρ at *; simp [go_sem, ec, e81, e88, c3]; try rfl) ?_
       clear hF
       intro hF
       refine take_fp 33 [34, 35] (oi := { dst := some 90, op := Op.pick (Operand.tmp 79) (Operand.const (Value.bool true)) (Operand.tmp 89), type := 4, pos := "ref.go:70", after := #[{ on := 22, ground := Ground.data }, { on := 32, ground := Ground.data }, { on := 19, ground := Ground.guard }], guard := some (19, true) }) (d := 90) (v := .bool true) hF hS rfl rfl (by decide) (by kernel_rfl) (by kernel_rfl) (by kernel_rfl) (by kernel_rfl) (fun _ _ _ h => h) (fun a' hA => hA.wantedB (j := 19) (dj := 76) (b := true) rfl (by kernel_rfl) (by decide) rfl) (fun a' hA w' hw => by have e79 := hA.get 79 rfl; have e89 := hA.get 89 rfl; have ec : ∀ v, a'.eval (.const v) = v := fun _ => rfl; clear hA; generalize a'.eval = ρ at *; simp [go_sem, ec, e79, e89]; try rfl) ?_
       clear hF
       intro hF
       refine take_fp 34 [35] (oi := { dst := some 91, op := Op.pick (Operand.tmp 76) (Operand.tmp 90) (Operand.const (Value.bool false)), type := 4, pos := "ref.go:70", after := #[{ on := 19, ground := Ground.data }, { on := 33, ground := Ground.data }], guard := none }) (d := 91) (v := .bool true) hF hS rfl rfl (by decide) (by kernel_rfl) (by kernel_rfl) (by kernel_rfl) (by kernel_rfl) (fun _ _ _ h => h) (fun a' hA => wanted_none rfl) (fun a' hA w' hw => by have e76 := hA.get 76 rfl; have e90 := hA.get 90 rfl; have ec : ∀ v, a'.eval (.const v) = v := fun _ => rfl; clear hA; generalize a'.eval = ρ at *; simp [go_sem, ec, e76, e90]; try rfl) ?_
       clear hF
       intro hF
       refine one_fp 35 (oi := { dst := some 3, op := Op.assign (Operand.tmp 91), type := 4, pos := "ref.go:70", after := #[{ on := 34, ground := Ground.data }, { on := 22, ground := Ground.chain }, { on := 0, ground := Ground.phase }, { on := 1, ground := Ground.phase }, { on := 2, ground := Ground.phase }, { on := 3, ground := Ground.phase }, { on := 4, ground := Ground.phase }, { on := 5, ground := Ground.phase }, { on := 6, ground := Ground.phase }, { on := 7, ground := Ground.phase }, { on := 8, ground := Ground.phase }, { on := 9, ground := Ground.phase }, { on := 10, ground := Ground.phase }, { on := 11, ground := Ground.phase }, { on := 12, ground := Ground.phase }, { on := 13, ground := Ground.phase }, { on := 14, ground := Ground.phase }, { on := 15, ground := Ground.phase }, { on := 16, ground := Ground.phase }, { on := 17, ground := Ground.phase }, { on := 18, ground := Ground.phase }, { on := 19, ground := Ground.phase }, { on := 20, ground := Ground.phase }, { on := 21, ground := Ground.phase }, { on := 22, ground := Ground.phase }, { on := 23, ground := Ground.phase }, { on := 24, ground := Ground.phase }, { on := 25, ground := Ground.phase }, { on := 26, ground := Ground.phase }, { on := 27, ground := Ground.phase }, { on := 28, ground := Ground.phase }, { on := 29, ground := Ground.phase }, { on := 30, ground := Ground.phase }, { on := 31, ground := Ground.phase }, { on := 32, ground := Ground.phase }, { on := 33, ground := Ground.phase }, { on := 34, ground := Ground.phase }], guard := none }) (d := 3) (v := .bool true) hF rfl rfl (by decide) (by kernel_rfl) (by kernel_rfl) (fun a' hA => wanted_none rfl) (fun a' hA => by have e91 := hA.get 91 rfl; have ec : ∀ v, a'.eval (.const v) = v := fun _ => rfl; clear hA; generalize a'.eval = ρ at *; simp [go_sem, ec, e91]; try rfl) ?_
       clear hF
       intro hF
       refine wpTill_done (by kernel_rfl) ?_ _
       subst ha0
       simp only [Act.put, List.setIfInBounds_toArray, List.set_cons_zero, List.set_cons_succ]
       have HBW := Lib.hid (HBE.out.trans (hS.mono HBE.out.size))
       clear hF hS hkz hzn hi1 hi1w hx1 hx2 c3
       go_wp2_with fail
       go_roundw
       case rel => exact ⟨k + 1, by omega, by go_num, rfl, HBW.out⟩
       case measure => simp [intOf]; omega
     ·have HB := Lib.hid (B0.out.trans (hbe.mono B0.out.size))
      clear hbe
      go_wp2_with fail
      go_ret
      exact ⟨rfl, HB.out⟩
end Go.Proofs.YtkjgkchdkeggoaaGreatDoor

namespace Go.Proofs.YtkjgkchdkeggoaaGreatDoor
open Go.RowKit
set_option maxRecDepth 20000
set_option linter.unusedVariables false
set_option linter.unusedSimpArgs false

/-- Is a kind a name's? -/
def nmK (k : Int) : Bool := k == 6 || k == 7 || k == 9
theorem named_any (k : Int) (w : World) : Calls Tryz.prog 13 #[.int .i64 k] w fun e w' => e = .returned (.bool (nmK k)) ∧ w = w' := by
 have HN : Hid (nmK k = (k == 6 || k == 7 || k == 9)) := Lib.hid rfl
 go_enter Tryz.func13, Tryz.ntmps13
 go_wp2
 all_goals
  go_ret
  exact ⟨ret_bool (by have e := HN.out; simp_all), rfl⟩
theorem cnt_kid {x : Int} {y : Br} {h : Hd} {ks : List Br} (hy : y ∈ ks) (hc : 0 < y.pb.cnt x) : 0 < (Br.mk h ks).pb.cnt x := by
 simp only [Br.pb, Pb.cnt, pbs_map]
 have : y.pb.cnt x ≤ cntL x (ks.map Br.pb) := by
  clear hc
  induction ks with
  | nil => cases hy
  | cons z r ih =>
   simp only [List.map_cons, cntL]
   rcases List.mem_cons.1 hy with rfl | hy
   ·omega
   ·have := ih hy; omega
 omega
theorem cnt_own {x : Int} {h : Hd} {ks : List Br} (hx : x ∈ h.ns) : 0 < (Br.mk h ks).pb.cnt x := by
 simp only [Br.pb, Pb.cnt]
 have := List.count_pos_iff.2 hx
 omega

set_option maxHeartbeats 4000000 in
theorem whole14_any (L : List Tok) (g c : Nat) (hLc : L.length ≤ 1000001) (y : Br) : ∀ (w : World), y.Lies w → y.Few → y.pb.Rt → g < w.heap.size → TokCells w g L → (∀ x : Int, 0 < y.pb.cnt x → ∃ n : Nat, x = (n : Int) ∧ ∃ h : n < L.length, nmK L[n].k = true) →
  Calls Tryz.prog 14 #[y.h.val, .slice (some ⟨g, 0, none⟩) L.length c] w fun e w' => e = .returned (.bool true) ∧ Below w.heap.size w w' := by
 induction y using Br.ind with
 | hP h ks ih =>
  intro w hl hfew hrt hg htc hnm
  have HRG := Lib.hid (fun W (hW : (Br.mk h ks).Lies W) => right_any (.mk h ks) W hW hfew hrt)
  obtain ⟨w0, e0, c0, l0, b0, s0⟩ := boxed w _ hl
  have HLW := Lib.hid (fun W (hW : Below w0.heap.size w0 W) => l0.step _ hW)
  obtain ⟨hnames, hkids, hall⟩ := (lies_iff _ _).1 l0
  have hkp : 0 < h.k := by
   have := hrt
   simp only [Br.pb, Pb.Rt] at this
   exact this.1
  have HR3 : Hid (ChainP h.f h.t (ks.map Br.pb)) := Lib.hid (by
   have := hrt
   simp only [Br.pb, Pb.Rt, pbs_map] at this
   exact this.2.2.2.2)
  simp only [Br.Few, fewAll_iff] at hfew
  obtain ⟨hf1, hf2, hf3⟩ := hfew
  have HNM : Hid (∀ x ∈ h.ns, ∃ n : Nat, x = (n : Int) ∧ ∃ h : n < L.length, nmK L[n].k = true) := Lib.hid fun x hx => hnm x (cnt_own hx)
  have HNK : Hid (∀ y ∈ ks, ∀ x : Int, 0 < y.pb.cnt x → ∃ n : Nat, x = (n : Int) ∧ ∃ h : n < L.length, nmK L[n].k = true) := Lib.hid fun y hy x hx => hnm x (cnt_kid hy hx)
  simp only [Br.h, Br.ks] at e0 c0 hnames hkids hall hf1 ⊢
  obtain ⟨hk, hm, hf, ht, np, nn, nc, ns, kp, kn, kc⟩ := h
  have hnn : nn = ns.length := hnames.1
  have hkn : kn = ks.length := hkids.1
  have HN := Lib.hid hnames
  have HK := Lib.hid hkids
  have HL := Lib.hid hall
  have HI := Lib.hid ih
  have HF3 := Lib.hid hf3
  have B0 := Lib.hid b0
  have C0 := Lib.hid (fun W (hW : Below w0.heap.size w0 W) => (c0.step (by omega) hW).box)
  have S0 := Lib.hid s0
  have HNN := Lib.hid hnn
  have HKN := Lib.hid hkn
  have hnl : nn ≤ 1000000 := by simp only at hf1; omega
  have hkl : kn ≤ 1000000 := by omega
  have hg0 : g < w0.heap.size := by omega
  have HTC := Lib.hid (htc.step hg b0)
  simp only at HNM hkp
  simp only [Br.h] at HRG
  clear hnames hkids hall ih hf3 b0 c0 hl l0 s0 hnn hkn hf1 hf2 hrt hnm htc hg
  obtain ⟨a0, a1, a2, a3, a4, a5⟩ := C0.out w0 (Below.refl _ _)
  try simp only at a0 a4 a5
  rw [e0] at a0 a4 a5
  go_enter Tryz.func14, Tryz.ntmps14
  go_wp2_with fail
  rw [← e0]
  clear a0 a1 a2 a3 a4 a5
  go_loopw [12] (fun iv wr => ∃ i : Nat, i ≤ nn ∧ iv = .int .i64 i ∧ Below w0.heap.size w0 wr) (fun iv _ => nn - (intOf iv).toNat)
  case atStart => exact ⟨0, by omega, rfl, Below.refl _ _⟩
  case round =>
   obtain ⟨i, hi, rfl, hbe1⟩ := hrel
   have hz1 := hbe1.size
   have HBE1 := Lib.hid hbe1
   clear hbe1
   by_cases hlt : i < nn
   ·obtain ⟨b1, off, rfl, hc1, hb1, hatn⟩ := HN.out.2.resolve_left (by omega)
    have hil : i < ns.length := by rw [← HNN.out]; exact hlt
    have q0 : wr.cell? ⟨b1, off + i, none⟩ = some (.int .i64 ns[i]) := (hatn.step hb1 HBE1.out) i hil
    obtain ⟨n, hxn, hnl2, hnk⟩ := HNM.out ns[i] (List.getElem_mem hil)
    obtain ⟨p0, p1, p2⟩ := (HTC.out.step hg0 HBE1.out) n hnl2
    have HND := Lib.hid (fun W => named_any L[n].k W)
    rw [hnk] at HND
    rw [hxn] at q0
    have hrb1 : (0 : Int) ≤ (i : Int) := by omega
    have hrb2 : (i : Int) < (nn : Int) := by omega
    have hrb3 : ¬ (n : Int) < 0 := by omega
    have hrb4 : ¬ (L.length : Int) ≤ (n : Int) := by omega
    have hrb5 : (0 : Int) ≤ (n : Int) := by omega
    have hrb6 : (n : Int) < (L.length : Int) := by omega
    clear hatn hxn hnk p1 p2
    generalize L[n].k = tk at *
    go_wp2_with fail
    refine (HND.out _).mono ?_
    rintro e w3 ⟨rfl, rfl⟩
    go_wp2_with fail
    go_roundw
    case rel => exact ⟨i + 1, by omega, by go_num, HBE1.out⟩
    case measure => simp [intOf]; omega
   ·obtain ⟨a0, a1, a2, a3, a4, a5⟩ := C0.out _ HBE1.out
    try simp only at a0 a5
    go_wp2_with fail
    clear a0 a1 a2 a3 a4 a5
    go_loopw [37] (fun iv wr => ∃ k : Nat, k ≤ kn ∧ iv = .int .i64 k ∧ Below w0.heap.size w0 wr) (fun iv _ => kn - (intOf iv).toNat)
    case atStart => exact ⟨0, by omega, rfl, HBE1.out⟩
    case round =>
     obtain ⟨k, hk0, rfl, hbe⟩ := hrel
     have hz := hbe.size
     by_cases hlt2 : k < kn
     ·obtain ⟨b1, off, rfl, hcap, hb1, hkat⟩ := HK.out.2.resolve_left (by omega)
      have hkk : k < ks.length := by rw [← HKN.out]; exact hlt2
      obtain ⟨d0, d1, d2, d3, d4, d5⟩ := (hkat k hkk).step hb1 hbe
      have hmem := List.getElem_mem hkk
      have hch := chain_mem HR3.out ks[k].pb (List.mem_map.2 ⟨_, hmem, rfl⟩)
      have hB1 : Below wr.heap.size wr (wr.alloc (BC ks[k].h)) := (Below.refl _ _).alloc (Nat.le_refl _) _
      have hbe2 := hbe.trans (hB1.mono hz)
      have HBE := Lib.hid hbe2
      have HX := Lib.hid (HI.out ks[k] hmem (wr.alloc (BC ks[k].h)) ((HL.out _ hmem).step _ hbe2) (HF3.out _ hmem) hch.1 (Nat.lt_of_lt_of_le hg0 hbe2.size) (HTC.out.step hg0 hbe2) (HNK.out _ hmem))
      have hrb1 : (0 : Int) ≤ (k : Int) := by omega
      have hrb2 : (k : Int) < (kn : Int) := by omega
      clear hkat hmem hch hB1 hbe2 hbe
      generalize ks[k] = y at *
      go_wp2_with fail
      refine HX.out.mono ?_
      rintro e w3 ⟨rfl, hb3⟩
      have HB3 := Lib.hid (HBE.out.trans (hb3.mono HBE.out.size))
      clear hb3
      go_wp2_with fail
      go_roundw
      case rel => exact ⟨k + 1, by omega, by go_num, HB3.out⟩
      case measure => simp [intOf]; omega
     ·obtain ⟨a0, a1, a2, a3, a4, a5⟩ := C0.out _ hbe
      try simp only at a0 a1 a2 a3 a4 a5
      have HX := Lib.hid (HRG.out wr (HLW.out _ hbe))
      have HB := Lib.hid (B0.out.trans (hbe.mono B0.out.size))
      clear hbe
      go_wp2_with fail
      refine HX.out.mono ?_
      rintro e w3 ⟨rfl, hb3⟩
      have HB3 := Lib.hid (HB.out.trans (hb3.mono HB.out.size))
      clear hb3
      go_wp2_with fail
      go_ret
      exact ⟨rfl, HB3.out⟩
end Go.Proofs.YtkjgkchdkeggoaaGreatDoor

namespace Go.Proofs.YtkjgkchdkeggoaaGreatDoor
open Go.RowKit
set_option maxRecDepth 20000
set_option linter.unusedVariables false
set_option linter.unusedSimpArgs false

/-- What is known of a file that is read. -/
structure RtFile (s : ByteArray) (x : Pb) (n : Nat) : Prop where
 rt : x.Rt
 fr : x.fr = 0
 to : x.to = (n : Int)
 len : n + 1 = (wordsT s).length
 wt : x.wt ≤ 3 * n + 1
 one : ∀ y, x.cnt y ≤ 1
 inn : ∀ y, 0 < x.cnt y → 0 ≤ y ∧ y < (n : Int)
 nm : ∀ (y : Nat) (h : y < (wordsT s).length), 0 < x.cnt (y : Int) → nmK (wordsT s)[y].k = true
 all : ∀ (y : Nat) (h : y < (wordsT s).length), x.cnt (y : Int) = 0 → nmK (wordsT s)[y].k = true → s.extract (wordsT s)[y].a (wordsT s)[y].e = ⟨#[42]⟩
theorem rt_file {S : Src} (g : S.Good) (T : S.ts = wordsT S.s) {x : Pb} {n : Nat} (h : wholeO S (fileS S) = .ok x n) : RtFile S.s x n := by
 have hf := fileO_fin g (F := fuel S) (Nat.le_refl _) (pos_of S T)
 unfold wholeO fileS at h
 cases hx : fileO S (fuel S) 0 with
 | ok y k =>
  rw [hx] at h hf
  have hk : k < S.ts.length := hf.2
  simp only [Out.bind] at h
  cases hz : (S.kd k == 0)
  ·rw [hz] at h; cases h
  ·rw [hz] at h
   simp only [cond_true] at h
   injection h with e1 e2
   subst e1 e2
   have hend := (g.fin k hk).1 (by rw [← S.kd_at hk]; exact beq_iff_eq.1 hz)
   have q := fileO_rt T (fuel S) y k hx
   have hft : y.fr = 0 ∧ y.to = (k : Int) := by
    unfold fileO at hx
    cases hd : decsO S (fuel S) (parts S (fuel S)) 0 2 0 with
    | ok l m =>
     rw [hd] at hx
     simp only [Out.bind] at hx
     injection hx with e1 e2
     subst e1 e2
     exact ⟨rfl, rfl⟩
    | form m => rw [hd] at hx; cases hx
    | deep m => rw [hd] at hx; cases hx
    | dry => rw [hd] at hx; cases hx
   have hnm : ∀ (z : Nat) (hz : z < S.ts.length), S.nm z = nmK S.ts[z].k := fun z hz => by
    unfold Src.nm nmK; rw [S.kd_at hz]
   refine ⟨q.rt, hft.1, hft.2, by rw [← T]; exact hend, fileO_wt (fuel S) y k hx, q.cov.one, fun z hz => by have := q.cov.inn z hz; omega, fun z hz hc => ?_, fun z hz hc hn => ?_⟩
   ·have := q.cov.nm z hc
    rw [hnm z (by rw [T]; exact hz)] at this
    simpa only [T] using this
   ·have hz2 : z < S.ts.length := by rw [T]; exact hz
    have h1 : nmK S.ts[z].k = true := by simpa only [T] using hn
    have hlt : z < k := by
     rcases Nat.lt_or_ge z k with h | h
     ·exact h
     ·have e : z = k := by omega
      subst e
      have := (g.fin z hz2).2 hend
      rw [this] at h1; exact absurd h1 (by decide)
    rcases hs : S.is z [42] with _ | _
    ·have := q.cov.all z (by omega) hlt (by rw [hnm z hz2]; exact h1) hs
     exact absurd hc (Nat.ne_of_gt this)
    ·have h2 : S.s.extract (wordsT S.s)[z].a (wordsT S.s)[z].e = S.tx z := by rw [S.tx_at hz2]; simp only [T]
     rw [h2]
     apply bytes_ext
     simpa [Src.is] using hs
 | form k => rw [hx] at h; cases h
 | deep k => rw [hx] at h; cases h
 | dry => rw [hx] at h; cases h

/-- How often a name is in a list of branches, their parts aside. -/
def nsum (x : Int) : List Br → Nat
 | [] => 0
 | b :: r => b.h.ns.count x + nsum x r
theorem nsum_append (x : Int) (a b : List Br) : nsum x (a ++ b) = nsum x a + nsum x b := by
 induction a with
 | nil => simp [nsum]
 | cons y r ih => simp only [List.cons_append, nsum, ih]; omega
theorem nsum_flat (x : Int) (b : Br) : nsum x b.flatB = b.pb.cnt x := by
 induction b using Br.ind with
 | hP h ks ih =>
  have : nsum x (flatsB ks) = cntL x (ks.map Br.pb) := by
   clear h
   induction ks with
   | nil => rfl
   | cons y r ih2 =>
    simp only [flatsB, nsum_append, List.map_cons, cntL]
    rw [ih y (by simp), ih2 (fun z hz => ih z (by simp [hz]))]
  simp only [Br.flatB, nsum, Br.h, Br.pb, Pb.cnt, pbs_map, this]
theorem mem_flats {y : Br} {ks : List Br} (h : y ∈ flatsB ks) : ∃ k ∈ ks, y ∈ k.flatB := by
 induction ks with
 | nil => cases h
 | cons z r ih =>
  simp only [flatsB] at h
  rcases List.mem_append.1 h with h | h
  ·exact ⟨z, by simp, h⟩
  ·obtain ⟨k, h1, h2⟩ := ih h
   exact ⟨k, by simp [h1], h2⟩
theorem lies_flat {w : World} (b : Br) : b.Lies w → b.Few → ∀ y ∈ b.flatB, y.Lies w ∧ y.h.ns.length ≤ 1000000 := by
 induction b using Br.ind with
 | hP h ks ih =>
  intro hl hf y hy
  have hf2 := hf
  simp only [Br.Few, fewAll_iff] at hf2
  simp only [Br.flatB] at hy
  rcases List.mem_cons.1 hy with rfl | hy
  ·exact ⟨hl, hf2.1⟩
  ·obtain ⟨k, h1, h2⟩ := mem_flats hy
   exact ih k h1 (((lies_iff _ _).1 hl).2.2 k h1) (hf2.2.2 k h1) y h2
theorem flat_wt (b : Br) : b.flatB.length ≤ b.pb.wt := by
 induction b using Br.ind with
 | hP h ks ih =>
  have : (flatsB ks).length ≤ wtL (ks.map Br.pb) := by
   clear h
   induction ks with
   | nil => simp [flatsB]
   | cons y r ih2 =>
    simp only [flatsB, List.length_append, List.map_cons, wtL]
    have := ih y (by simp)
    have := ih2 (fun z hz => ih z (by simp [hz]))
    omega
  simp only [Br.flatB, List.length_cons, Br.pb, Pb.wt, pbs_map]
  omega
theorem cellsE_at (l : List (Br × Int × Int)) (i : Nat) (h : i < l.length) (j : Nat) (hj : j < 8) : (cellsE l)[i * 8 + j]? = (hcells l[i].1.h ++ [.int .i64 l[i].2.1, .int .i64 l[i].2.2])[j]? := by
 induction l generalizing i with
 | nil => simp at h
 | cons x r ih =>
  have hl : (hcells x.1.h ++ [Value.int .i64 x.2.1, .int .i64 x.2.2]).length = 8 := rfl
  cases i with
  | zero => simp only [cellsE, Nat.zero_mul, Nat.zero_add, List.getElem_cons_zero]; rw [List.getElem?_append_left (by rw [hl]; exact hj)]
  | succ i =>
   simp only [cellsE, List.getElem_cons_succ]
   rw [List.getElem?_append_right (by rw [hl]; omega), hl, show (i + 1) * 8 + j - 8 = i * 8 + j from by omega]
   exact ih i (by simpa using h)
/-- Rows, as far as they are met: the first i, and j names of the next. -/
def pre (x : Int) (F : List Br) (i : Nat) (ns : List Int) : Nat := nsum x (F.take i) + ns.count x
theorem pre_le (x : Int) (F : List Br) (i : Nat) (h : i < F.length) (j : Nat) : pre x F i (F[i].h.ns.take j) ≤ nsum x F := by
 have h1 : nsum x F = nsum x (F.take (i + 1)) + nsum x (F.drop (i + 1)) := by rw [← nsum_append, List.take_append_drop]
 have h2 : nsum x (F.take (i + 1)) = nsum x (F.take i) + F[i].h.ns.count x := by
  rw [List.take_succ_eq_append_getElem h, nsum_append]; simp [nsum]
 have h3 : (F[i].h.ns.take j).count x ≤ F[i].h.ns.count x := (List.take_sublist _ _).count_le _
 unfold pre
 omega
theorem pre_next (x : Int) (F : List Br) (i : Nat) (h : i < F.length) : pre x F i F[i].h.ns = pre x F (i + 1) [] := by
 unfold pre
 rw [List.take_succ_eq_append_getElem h, nsum_append]; simp [nsum]
theorem pre_name (x : Int) (F : List Br) (i : Nat) (ns : List Int) (y : Int) : pre x F i (ns ++ [y]) = pre x F i ns + (if x = y then 1 else 0) := by
 unfold pre
 rw [List.count_append, List.count_singleton]
 by_cases h : x = y
 ·subst h; simp; omega
 ·have : (y == x) = false := by simpa using fun e : y = x => h e.symm
  simp [h, this]
theorem pre_all (x : Int) (F : List Br) : pre x F F.length [] = nsum x F := by simp [pre]
end Go.Proofs.YtkjgkchdkeggoaaGreatDoor

namespace Go.Proofs.YtkjgkchdkeggoaaGreatDoor
open Go.RowKit
set_option maxRecDepth 20000
set_option linter.unusedVariables false
set_option linter.unusedSimpArgs false

set_option maxHeartbeats 2000000 in
theorem rights_long (s : ByteArray) (w : World) (hk : Kw w) (h : 5000 < s.size) : Calls Tryz.prog 3 #[.string s] w fun e w' => e = .returned (.bool true) ∧ Below w.heap.size w w' := by
 have HL := Lib.hid (alive_any w hk)
 go_enter Tryz.func3, Tryz.ntmps3
 go_wp2_with (go_at_call 7; refine HL.out.mono ?_; rintro e w1 ⟨rfl, hb⟩; have HB := Lib.hid hb; clear hb)
 go_ret
 exact ⟨rfl, HB.out⟩
/-- An empty branch. -/
def brZ : Br := .mk ⟨0, 0, 0, 0, none, 0, 0, [], none, 0, 0⟩ []
theorem zero_same (w : World) : Calls Tryz.prog 10 #[zeroV, zeroV] w fun e w' => e = .returned (.bool true) ∧ Below w.heap.size w w' := by
 have hl : brZ.Lies w := by
  unfold brZ
  rw [lies_iff]
  exact ⟨⟨rfl, .inl rfl⟩, ⟨rfl, .inl rfl⟩, fun x hx => by cases hx⟩
 have h := refSame_any brZ brZ w hl hl (by unfold brZ; simp [Br.Few, FewAll])
 rw [same_pb brZ brZ rfl] at h
 exact h

set_option maxHeartbeats 8000000 in
theorem rights_any (s : ByteArray) (w : World) (hk : Kw w) (hs : s.size ≤ 5000) : Calls Tryz.prog 3 #[.string s] w fun e w' => e = .returned (.bool true) ∧ Below w.heap.size w w' := by
 have HF := Lib.hid (parse_file s (by omega) w hk)
 have HK := Lib.hid hk
 clear hk
 go_enter Tryz.func3, Tryz.ntmps3
 go_wp2_with fail
 refine HF.out.mono ?_
 intro e w1 hsd
 obtain ⟨k1, m1, f1, t1, np1, nn1, nc1, kp1, kn1, kc1, a1, c1, rfl⟩ := hsd.form
 have hb := hsd.1
 have hbA := (Below.refl w1.heap.size w1).alloc (Nat.le_refl _) (.cells #[.int .i64 k1, .int .i64 m1, .int .i64 f1, .int .i64 t1, .slice np1 nn1 nc1, .slice kp1 kn1 kc1] 26)
 have hbB := hb.trans (hbA.mono hb.size)
 have HS1 := Lib.hid hsd
 have HK1 := Lib.hid (HK.out.step hbB)
 have HB1 := Lib.hid hbB
 have HA1 := Lib.hid hbA
 have HX1 := Lib.hid (heap_alloc_new w1 (.cells #[.int .i64 k1, .int .i64 m1, .int .i64 f1, .int .i64 t1, .slice np1 nn1 nc1, .slice kp1 kn1 kc1] 26))
 have HZ1 : Hid (w1.heap.size < (w1.alloc (.cells #[.int .i64 k1, .int .i64 m1, .int .i64 f1, .int .i64 t1, .slice np1 nn1 nc1, .slice kp1 kn1 kc1] 26)).heap.size) := Lib.hid (by simp)
 clear hsd hb hbA hbB HK HF
 go_wp2_with fail
 generalize hgp : w1.heap.size = p1 at *
 have HG1 := Lib.hid hgp
 clear hgp
 generalize w1.alloc (.cells #[.int .i64 k1, .int .i64 m1, .int .i64 f1, .int .i64 t1, .slice np1 nn1 nc1, .slice kp1 kn1 kc1] 26) = A1 at *
 refine (no_any _ _).mono ?_
 rintro e w' ⟨rfl, rfl⟩
 have hcase : (c1 ≠ 0 ∧ Value.agg #[.int .i64 k1, .int .i64 m1, .int .i64 f1, .int .i64 t1, .slice np1 nn1 nc1, .slice kp1 kn1 kc1] = zeroV) ∨ (c1 = 0 ∧ ∃ x n, RtFile s x n ∧ RB w x (.agg #[.int .i64 k1, .int .i64 m1, .int .i64 f1, .int .i64 t1, .slice np1 nn1 nc1, .slice kp1 kn1 kc1]) w1) := by
  have hsd := HS1.out
  obtain ⟨_, ⟨h0, he⟩ | ⟨h0, S, e1, e2, g, hc⟩⟩ := hsd
  ·simp only [Ending.returned.injEq, Value.tuple.injEq, Array.mk.injEq, List.cons.injEq, Value.int.injEq, and_true, true_and] at he
   exact .inl ⟨by rw [he.2.2]; exact h0, he.1⟩
  ·obtain ⟨x, n, v, o1, he, hr⟩ | ⟨n, _, he⟩ | ⟨n, _, he⟩ := hc
   ·simp only [Ending.returned.injEq, Value.tuple.injEq, Array.mk.injEq, List.cons.injEq, Value.int.injEq, and_true, true_and] at he
    have := rt_file g (by rw [e1]; exact e2) o1
    rw [e1] at this
    exact .inr ⟨he.2.2, x, n, this, by rw [he.1]; exact hr⟩
   ·simp only [Ending.returned.injEq, Value.tuple.injEq, Array.mk.injEq, List.cons.injEq, Value.int.injEq, and_true, true_and] at he
    exact .inl ⟨by rw [he.2.2]; decide, he.1⟩
   ·simp only [Ending.returned.injEq, Value.tuple.injEq, Array.mk.injEq, List.cons.injEq, Value.int.injEq, and_true, true_and] at he
    exact .inl ⟨by rw [he.2.2]; decide, he.1⟩
 clear HS1
 have q1 := Lib.cell_of_heap HX1.out
 have r0 := q1 0
 have r1 := q1 1
 have r2 := q1 2
 have r3 := q1 3
 have r4 := q1 4
 have r5 := q1 5
 simp only [List.getElem?_toArray, List.getElem?_cons_zero, List.getElem?_cons_succ] at r0 r1 r2 r3 r4 r5
 clear q1
 rcases hcase with ⟨hc, hz⟩ | ⟨rfl, x, n, hrt, hrb⟩
 ·simp only [Value.agg.injEq, Array.mk.injEq, List.cons.injEq, Value.int.injEq, Value.slice.injEq, and_true, true_and] at hz
  obtain ⟨rfl, rfl, rfl, rfl, ⟨rfl, rfl, rfl⟩, rfl, rfl, rfl⟩ := hz
  have hcz : (c1 == 0) = false := by simpa using hc
  have HSZ := Lib.hid (zero_same A1)
  go_wp2_with fail
  refine HSZ.out.mono ?_
  rintro e w2 ⟨rfl, hb2⟩
  have HLV := Lib.hid (alive_any w2 (HK1.out.step hb2))
  have HB2 := Lib.hid (HB1.out.trans (hb2.mono HB1.out.size))
  clear hb2
  go_wp2_with (go_at_call 7; refine HLV.out.mono ?_; rintro e w6 ⟨rfl, hb6⟩; have HB6 := Lib.hid (HB2.out.trans (hb6.mono HB2.out.size)); clear hb6)
  go_ret
  exact ⟨rfl, HB6.out⟩
 ·obtain ⟨y, hv, hl, _, hp⟩ := hrb
  subst hp
  have bA1 : Below w1.heap.size w1 A1 := by have := HA1.out; rw [← HG1.out] at this; exact this
  have hl1 := hl.step _ bA1
  have hvv := hv
  simp only [Hd.val, Value.agg.injEq, Array.mk.injEq, List.cons.injEq, Value.int.injEq, and_true, true_and] at hvv
  have hf1 : f1 = 0 := by have := hrt.fr; rw [pb_fr] at this; rw [hvv.2.2.1]; exact this
  have ht1 : t1 = (n : Int) := by have := hrt.to; rw [pb_to] at this; rw [hvv.2.2.2.1]; exact this
  subst hf1 ht1
  have hL := hrt.len
  have hLs : (wordsT s).length ≤ s.size + 1 := by
   rw [words_end, List.length_append, List.length_singleton]
   have := (wordsI_in s).2
   omega
  have hfew := few_of_wt y (by have := hrt.wt; omega)
  have hfl : y.flatB.length ≤ 100000 := by have := flat_wt y; have := hrt.wt; omega
  have HFEW := Lib.hid hfew
  have HRT := Lib.hid hrt
  have HV := Lib.hid hv
  have HLY := Lib.hid (fun W (hW : Below A1.heap.size A1 W) => hl1.step _ hW)
  have HBOX := Lib.hid (fun W (hW : Below A1.heap.size A1 W) => Lib.cell_of_heap ((hW.block p1 HZ1.out).trans HX1.out))
  have HROWS := Lib.hid (fun W (hW : Below A1.heap.size A1 W) => by
   have := refRows_any y W (hl1.step _ hW) hfl
   rw [← hv] at this
   exact this)
  have HW := Lib.hid (fun W => dwords_any s (by omega) W)
  clear hl hl1 bA1 hvv hfew hfl hrt hv HX1 HG1 HA1
  obtain ⟨L, hLe⟩ : ∃ L, L = wordsT s := ⟨_, rfl⟩
  have HLE := Lib.hid hLe
  rw [← hLe] at hL hLs HW
  clear hLe
  have hpos : 0 < L.length := by omega
  have hLb : L.length ≤ 5001 := by omega
  clear hLs
  go_wp2_with fail
  refine (HW.out _).mono ?_
  rintro e w2 ⟨v2, rfl, ht2, hb2⟩
  obtain ⟨g, c, rfl, hgc, hcm, hg2, htc⟩ := ht2.open hpos
  have HTC := Lib.hid htc
  have HB2 := Lib.hid hb2
  clear ht2 htc HW
  have HZS : Hid (SeenAt (w2.alloc (.cells (Array.replicate L.length (Value.int .i64 0)) 3)) w2.heap.size L.length (fun _ => 0)) := Lib.hid (by
   refine ⟨_, heap_alloc_new w2 _, fun k hk => ?_⟩
   simp [hk])
  have HBZ : Hid (Below w2.heap.size w2 (w2.alloc (.cells (Array.replicate L.length (Value.int .i64 0)) 3))) := Lib.hid ((Below.refl _ _).alloc (Nat.le_refl _) _)
  have hsz3 : (w2.alloc (.cells (Array.replicate L.length (Value.int .i64 0)) 3)).heap.size = w2.heap.size + 1 := by simp
  obtain ⟨i0, hi0, hy0, hy1, hy2⟩ := info_parts info3
  obtain ⟨N, hN⟩ : ∃ N, N = L.length := ⟨_, rfl⟩
  have hb3 := HB2.out.trans (HBZ.out.mono hb2.size)
  obtain ⟨q0, q1, q2, q3, q4, q5⟩ : _ ∧ _ ∧ _ ∧ _ ∧ _ ∧ _ := ⟨HBOX.out _ hb3 0, HBOX.out _ hb3 1, HBOX.out _ hb3 2, HBOX.out _ hb3 3, HBOX.out _ hb3 4, HBOX.out _ hb3 5⟩
  simp only [List.getElem?_toArray, List.getElem?_cons_zero, List.getElem?_cons_succ] at q0 q1 q2 q3 q4 q5
  have HB3 := Lib.hid hb3
  rw [← hN] at hpos hLb hgc HZS HBZ hsz3 q0 q1 q2 q3 q4 q5 HB3 hL ⊢
  have HX := Lib.hid (HROWS.out _ HB3.out)
  have HNN := Lib.hid hN
  clear hN hb3 hb2 r0 r1 r2 r3 r4 r5
  go_wp2_with (refine wpList_make_room w2 rfl _ _ 23 rfl 3 i0 .i64 0 Tryz.underlying23 hi0 hy0 hy1 .i64 .i64 _ _ N N rfl rfl rfl rfl (Nat.le_refl _) (by rw [hy2]; omega) (by omega) ?_)
  generalize w2.alloc (.cells (Array.replicate N (Value.int .i64 0)) 3) = w3 at *
  refine HX.out.mono ?_
  rintro e w4 ⟨v4, es, rfl, hes, hown, hb4⟩
  have hR : es.length = y.flatB.length := by rw [← hes, List.length_map]
  have hR1 : 0 < es.length := by rw [hR]; exact flatB_pos y
  have hR2 : es.length ≤ 100000 := by rw [hR]; have := flat_wt y; have := HRT.out.wt; omega
  obtain ⟨gr, cr, rfl, hgr, hgr4, hcr, hcrm⟩ := own_pos hown hR1
  have hgrm : w2.heap.size ≠ gr := by omega
  have HROW : Hid (∀ W : World, W.heap[gr]? = w4.heap[gr]? → ∀ i (hi : i < es.length), BrAt W gr (i * 8) es[i].1.h ∧ W.cell? ⟨gr, i * 8 + 6, none⟩ = some (.int .i64 es[i].2.1) ∧ W.cell? ⟨gr, i * 8 + 7, none⟩ = some (.int .i64 es[i].2.2)) := Lib.hid (fun W hW i hi => by
   have hc := fun j (hj : j < 8) u (hu : (hcells es[i].1.h ++ [Value.int .i64 es[i].2.1, .int .i64 es[i].2.2])[j]? = some u) => (World.cell?_of_block (a := ⟨gr, i * 8 + j, none⟩) hW).trans (own_cell hown (i * 8 + j) u (by rw [cellsE_at es i hi j hj, hu]))
   exact ⟨⟨hc 0 (by omega) _ rfl, hc 1 (by omega) _ rfl, hc 2 (by omega) _ rfl, hc 3 (by omega) _ rfl, hc 4 (by omega) _ rfl, hc 5 (by omega) _ rfl⟩, hc 6 (by omega) _ rfl, hc 7 (by omega) _ rfl⟩)
  have HF : Hid (∀ i (hi : i < es.length), ∃ h2 : i < y.flatB.length, y.flatB[i] = es[i].1) := Lib.hid (fun i hi => ⟨by omega, by simp [← hes]⟩)
  have HIN : Hid (∀ W, Below A1.heap.size A1 W → ∀ i (hi : i < es.length), InV mkI W es[i].1.h.np es[i].1.h.nn es[i].1.h.nc es[i].1.h.ns ∧ es[i].1.h.ns.length ≤ 1000000) := Lib.hid (fun W hW i hi => by
   obtain ⟨h2, h3⟩ := HF.out i hi
   obtain ⟨h4, h5⟩ := lies_flat y (HLY.out W hW) HFEW.out y.flatB[i] (List.getElem_mem h2)
   rw [h3] at h4 h5
   exact ⟨((lies_iff _ _).1 h4).1, h5⟩)
  have HS4 : Hid (SeenAt w4 w2.heap.size N (fun k => (pre (k : Int) y.flatB 0 [] : Int))) := Lib.hid ((HZS.out.kept (hb4.block _ (by omega))).congr (fun k _ => by simp [pre, nsum]))
  have HB4 := Lib.hid (HBZ.out.trans (hb4.mono HBZ.out.size))
  have hz4 := hb4.size
  have HRR := Lib.hid hR
  clear hown hes hb4 HX HZS HBZ hR q0 q1 q2 q3 q4 q5
  go_wp2_with fail
  go_loopw [43] (fun iv wr => ∃ i : Nat, i ≤ es.length ∧ iv = .int .i64 i ∧ SeenAt wr w2.heap.size N (fun k => (pre (k : Int) y.flatB i [] : Int)) ∧ wr.heap[gr]? = w4.heap[gr]? ∧ Below w2.heap.size w2 wr) (fun iv _ => es.length - (intOf iv).toNat)
  case atStart => exact ⟨0, by omega, rfl, HS4.out, rfl, HB4.out⟩
  case round =>
   obtain ⟨i, hi, rfl, hseen, hrow, hbe⟩ := hrel
   have HSE := Lib.hid hseen
   have HRW := Lib.hid hrow
   have HBE := Lib.hid hbe
   have hgr1 : gr < wr.heap.size := by
    have := Array.getElem?_eq_some_iff.1 (Array.getElem?_eq_getElem hgr4)
    rcases Nat.lt_or_ge gr wr.heap.size with h | h
    ·exact h
    ·rw [Array.getElem?_eq_none h, Array.getElem?_eq_getElem hgr4] at hrow; cases hrow
   have hgm1 := hseen.lt
   by_cases hlt : i < es.length
   ·obtain ⟨⟨d0, d1, d2, d3, d4, d5⟩, d6, d7⟩ := HROW.out wr hrow i hlt
    obtain ⟨hI, hIl⟩ := HIN.out w2 HB2.out i hlt
    have hrb1 : (0 : Int) ≤ (i : Int) := by omega
    have hrb2 : (i : Int) < (es.length : Int) := by omega
    clear hseen hrow hbe
    obtain ⟨hF1, hF2⟩ := HF.out i hlt
    have HPN := Lib.hid (fun k : Int => pre_next k y.flatB i hF1)
    have HPL := Lib.hid (fun (k : Int) j => pre_le k y.flatB i hF1 j)
    rw [hF2] at HPN HPL
    generalize es[i] = e at *
    obtain ⟨eb, up, deep⟩ := e
    simp only at *
    generalize eb.h = h at *
    obtain ⟨hk, hm, hf, ht, np, nn, nc, ns, kp, kn, kc⟩ := h
    simp only at *
    have hnn : nn = ns.length := hI.1
    have HI := Lib.hid hI
    have HNS := Lib.hid hnn
    have hnl : nn ≤ 1000000 := by omega
    clear hI hnn hIl hF2
    have HB5 := Lib.hid (HBE.out.alloc HBE.out.size (.cells #[.int .i64 hk, .int .i64 hm, .int .i64 hf, .int .i64 ht, .slice np nn nc, .slice kp kn kc, .int .i64 up, .int .i64 deep] 37))
    have HS5 := Lib.hid (HSE.out.kept (w1 := wr.alloc (.cells #[.int .i64 hk, .int .i64 hm, .int .i64 hf, .int .i64 ht, .slice np nn nc, .slice kp kn kc, .int .i64 up, .int .i64 deep] 37)) (heap_alloc_old _ _ hgm1))
    have HR5 := Lib.hid ((heap_alloc_old wr (.cells #[.int .i64 hk, .int .i64 hm, .int .i64 hf, .int .i64 ht, .slice np nn nc, .slice kp kn kc, .int .i64 up, .int .i64 deep] 37) hgr1).trans HRW.out)
    go_wp2_with fail
    generalize wr.alloc (.cells #[.int .i64 hk, .int .i64 hm, .int .i64 hf, .int .i64 ht, .slice np nn nc, .slice kp kn kc, .int .i64 up, .int .i64 deep] 37) = w5 at *
    go_loopw [51] (fun iv wr => ∃ j : Nat, j ≤ nn ∧ iv = .int .i64 j ∧ SeenAt wr w2.heap.size N (fun k => (pre (k : Int) y.flatB i (ns.take j) : Int)) ∧ wr.heap[gr]? = w4.heap[gr]? ∧ Below w2.heap.size w2 wr) (fun iv _ => nn - (intOf iv).toNat)
    case atStart => exact ⟨0, by omega, rfl, by simpa using HS5.out, HR5.out, HB5.out⟩
    case round =>
     obtain ⟨j, hj, rfl, hseen, hrow, hbe⟩ := hrel
     have hgm2 := hseen.lt
     by_cases hltj : j < nn
     ·obtain ⟨b1, off, rfl, hc1, hb1, hatn⟩ := HI.out.2.resolve_left (by omega)
      have hjl : j < ns.length := by rw [← HNS.out]; exact hltj
      have c0 : wr.cell? ⟨b1, off + j, none⟩ = some (.int .i64 ns[j]) := (hatn.step hb1 hbe) j hjl
      have htk : ns.take (j + 1) = ns.take j ++ [ns[j]] := List.take_succ_eq_append_getElem hjl
      have hpn := fun k : Int => pre_name k y.flatB i (ns.take j) ns[j]
      simp only [← htk] at hpn
      have hle := HPL.out ns[j] (j + 1)
      have hcn : nsum ns[j] y.flatB = y.pb.cnt ns[j] := nsum_flat ns[j] y
      have hone := HRT.out.one ns[j]
      have hp1 := hpn ns[j]
      rw [if_pos rfl] at hp1
      obtain ⟨hv1, hv2⟩ := HRT.out.inn ns[j] (by omega)
      obtain ⟨v, hvj⟩ : ∃ v : Nat, ns[j] = (v : Int) := ⟨ns[j].toNat, by omega⟩
      have hp0 : pre ns[j] y.flatB i (ns.take j) = 0 := by omega
      have hvN : v < N := by omega
      obtain ⟨d0, df⟩ := hseen.cell hvN
      rw [← hvj, hp0] at d0
      have HST : Hid (SeenAt (wr.setCell ⟨w2.heap.size, v, none⟩ (.int .i64 1)) w2.heap.size N (fun k => (pre (k : Int) y.flatB i (ns.take (j + 1)) : Int))) := Lib.hid ((hseen.set hvN 1).congr (fun k _ => by
       rw [hpn]
       cases hkv : (k == v)
       ·have : ¬ (k : Int) = ns[j] := by
         have : k ≠ v := by simpa using hkv
         omega
        rw [if_neg this]; simp
       ·have hk : k = v := by simpa using hkv
        have : (k : Int) = ns[j] := by omega
        rw [if_pos this, this, hp0]; rfl))
      have HBT : Hid (Below w2.heap.size w2 (wr.setCell ⟨w2.heap.size, v, none⟩ (.int .i64 1))) := Lib.hid (hbe.setCell (Nat.le_refl _) _)
      have HRT2 : Hid ((wr.setCell ⟨w2.heap.size, v, none⟩ (.int .i64 1)).heap[gr]? = w4.heap[gr]?) := Lib.hid (by
       rw [← hrow]
       exact heap_setCell_other wr _ _ _ hgrm.symm)
      rw [hvj] at c0
      have hr1 : (0 : Int) ≤ (j : Int) := by omega
      have hr2 : (j : Int) < (nn : Int) := by omega
      have hr3 : ¬ (v : Int) < 0 := by omega
      have hr4 : ¬ (N : Int) ≤ (v : Int) := by omega
      have hr5 : (0 : Int) ≤ (v : Int) := by omega
      have hr6 : (v : Int) < (N : Int) := by omega
      clear hatn hseen hrow hbe htk hpn hle hcn hone hp1 hp0 hv1 hv2 hvj
      go_wp2_with fail
      go_roundw
      case rel => exact ⟨j + 1, by omega, by go_num, HST.out, HRT2.out, HBT.out⟩
      case measure => simp [intOf]; omega
     ·have hjn : j = nn := by omega
      have HST : Hid (SeenAt wr w2.heap.size N (fun k => (pre (k : Int) y.flatB (i + 1) [] : Int))) := Lib.hid (hseen.congr (fun k _ => by
       rw [hjn, HNS.out, List.take_length, HPN.out]))
      have HBT := Lib.hid hbe
      have HRT2 := Lib.hid hrow
      clear hseen hrow hbe
      go_wp2_with fail
      go_roundw
      case rel => exact ⟨i + 1, by omega, by go_num, HST.out, HRT2.out, HBT.out⟩
      case measure => simp [intOf]; omega
   ·have hiR : i = es.length := by omega
    have hse2 := hseen.congr (f' := fun k => (y.pb.cnt (k : Int) : Int)) (fun k _ => by rw [hiR, HRR.out, pre_all, nsum_flat])
    have HS6 := Lib.hid hse2
    have htc := HTC.out.step hg2 hbe
    have HT6 := Lib.hid htc
    have hg6 : g < wr.heap.size := Nat.lt_of_lt_of_le hg2 hbe.size
    have hbA := HB2.out.trans (hbe.mono HB2.out.size)
    have HB6 := Lib.hid hbA
    clear hseen hse2 htc hrow hbe hbA HSE HRW HBE HS4 HB4 HROW HF HIN hiR
    go_wp2_with fail
    go_loopw [73] (fun iv wr2 => ∃ k : Nat, k ≤ N ∧ iv = .int .i64 k ∧ Below wr.heap.size wr wr2) (fun iv _ => N - (intOf iv).toNat)
    case atStart => exact ⟨0, by omega, rfl, Below.refl _ _⟩
    case round =>
     obtain ⟨k, hk, rfl, hbe⟩ := hrel
     have hz := hbe.size
     by_cases hltk : k < N
     ·have hkL : k < L.length := by rw [← HNN.out]; exact hltk
      obtain ⟨p0, p1', p2⟩ := (HT6.out.step hg6 hbe) k hkL
      obtain ⟨d0, _⟩ := (HS6.out.kept (hbe.block _ HS6.out.lt)).cell hltk
      have hgm3 : w2.heap.size < wr.heap.size := Nat.lt_of_lt_of_le HS6.out.lt hz
      have hgm4 : ¬ w2.heap.size = wr.heap.size := by omega
      have hone := HRT.out.one (k : Int)
      have hk1 : 0 < y.pb.cnt (k : Int) → nmK L[k].k = true := by
       have := HRT.out.nm k (by rw [← HLE.out]; exact hkL)
       simpa only [← HLE.out] using this
      have hk0 : y.pb.cnt (k : Int) = 0 → nmK L[k].k = true → s.extract L[k].a L[k].e = ⟨#[42]⟩ := by
       have := HRT.out.all k (by rw [← HLE.out]; exact hkL)
       simpa only [← HLE.out] using this
      obtain ⟨h1, h2⟩ : L[k].a ≤ L[k].e ∧ L[k].e ≤ s.size := by
       have hm := List.getElem_mem hkL
       generalize L[k] = T at hm
       rw [HLE.out, words_end] at hm
       rcases List.mem_append.1 hm with hm | hm
       ·have := (wordsI_in s).1 T hm; omega
       ·rw [List.mem_singleton.1 hm]; exact ⟨Nat.le_refl _, Nat.le_refl _⟩
      have hsl := slice_to s L[k].a L[k].e h1 h2
      have hr1 : (0 : Int) ≤ (k : Int) := by omega
      have hr2 : (k : Int) < (N : Int) := by omega
      have HND := Lib.hid (fun W => named_any L[k].k W)
      have HZA := Lib.hid (hbe.alloc hz (.cells #[.int .i64 L[k].k, .int .i64 (L[k].a : Int), .int .i64 (L[k].e : Int)] 39))
      clear hbe
      generalize L[k] = T at *
      obtain ⟨tk, ta, te⟩ := T
      simp only at p0 p1' p2 hk1 hk0 h1 h2 hsl HND HZA
      by_cases hc : y.pb.cnt (k : Int) = 0
      ·cases hnk : nmK tk
       ·rw [hnk] at HND
        rw [hc] at d0
        clear hk0 hk1 hone hsl
        go_wp2_with (go_at_call 13; refine (HND.out _).mono ?_; rintro e w3 ⟨rfl, rfl⟩)
        go_roundw
        case rel => exact ⟨k + 1, by omega, by go_num, HZA.out⟩
        case measure => simp [intOf]; omega
       ·rw [hnk] at HND
        rw [hc] at d0
        have hex := hk0 hc hnk
        rw [hex] at hsl
        clear hk0 hk1 hone
        go_wp2_with (go_at_call 13; refine (HND.out _).mono ?_; rintro e w3 ⟨rfl, rfl⟩)
        go_roundw
        case rel => exact ⟨k + 1, by omega, by go_num, HZA.out⟩
        case measure => simp [intOf]; omega
      ·have hc1 : y.pb.cnt (k : Int) = 1 := by omega
       rw [hk1 (by omega)] at HND
       rw [hc1] at d0
       clear hk0 hk1 hone hsl
       go_wp2_with (go_at_call 13; refine (HND.out _).mono ?_; rintro e w3 ⟨rfl, rfl⟩)
       go_roundw
       case rel => exact ⟨k + 1, by omega, by go_num, HZA.out⟩
       case measure => simp [intOf]; omega
     ·have hbz := HB6.out.trans (hbe.mono HB6.out.size)
      have HBX := Lib.hid (HB1.out.trans (hbz.mono HB1.out.size))
      have hly := HLY.out _ hbz
      have hNL := HNN.out
      have HX := Lib.hid (whole14_any L g c (by omega) y wr hly HFEW.out HRT.out.rt (Nat.lt_of_lt_of_le hg6 hz) (HT6.out.step hg6 hbe) (fun x hx => by
       obtain ⟨h1, h2⟩ := HRT.out.inn x hx
       have hn : x.toNat < L.length := by omega
       have hxe : x = (x.toNat : Int) := by omega
       refine ⟨x.toNat, hxe, hn, ?_⟩
       rw [hxe] at hx
       have := HRT.out.nm x.toNat (by rw [← HLE.out]; exact hn) hx
       simpa only [← HLE.out] using this))
      rw [← HV.out, ← HNN.out] at HX
      obtain ⟨q0, q1, q2, q3, q4, q5⟩ : _ ∧ _ ∧ _ ∧ _ ∧ _ ∧ _ := ⟨HBOX.out _ hbz 0, HBOX.out _ hbz 1, HBOX.out _ hbz 2, HBOX.out _ hbz 3, HBOX.out _ hbz 4, HBOX.out _ hbz 5⟩
      simp only [List.getElem?_toArray, List.getElem?_cons_zero, List.getElem?_cons_succ] at q0 q1 q2 q3 q4 q5
      have HKZ := Lib.hid (HK1.out.step hbz)
      have hpz : p1 < wr.heap.size := Nat.lt_of_lt_of_le HZ1.out hbz.size
      have HBOX2 := Lib.hid (fun W (hW : Below wr.heap.size wr W) => HBOX.out W (hbz.trans (hW.mono hbz.size)))
      have hNn : IntKind.i64.wrap ((N : Int) - 1) = (n : Int) := by
       rw [show (N : Int) - 1 = (n : Int) by omega]
       exact IntWalk.i64_in _ (by omega)
      clear hbe hbz hly hNL
      go_wp2_with fail
      refine HX.out.mono ?_
      rintro e w7 ⟨rfl, hb7⟩
      obtain ⟨s0, s1, s2, s3, s4, s5⟩ : _ ∧ _ ∧ _ ∧ _ ∧ _ ∧ _ := ⟨HBOX2.out _ hb7 0, HBOX2.out _ hb7 1, HBOX2.out _ hb7 2, HBOX2.out _ hb7 3, HBOX2.out _ hb7 4, HBOX2.out _ hb7 5⟩
      simp only [List.getElem?_toArray, List.getElem?_cons_zero, List.getElem?_cons_succ] at s0 s1 s2 s3 s4 s5
      have HLV := Lib.hid (alive_any w7 (HKZ.out.step hb7))
      have HB7 := Lib.hid (HBX.out.trans (hb7.mono HBX.out.size))
      clear hb7
      go_wp2_with (go_at_call 7; refine HLV.out.mono ?_; rintro e w8 ⟨rfl, hb8⟩; have HB8 := Lib.hid (HB7.out.trans (hb8.mono HB7.out.size)); clear hb8)
      go_ret
      exact ⟨rfl, HB8.out⟩
end Go.Proofs.YtkjgkchdkeggoaaGreatDoor

namespace Go.Proofs.YtkjgkchdkeggoaaGreatDoor
open Go.RowKit
set_option linter.unusedVariables false

theorem parseRight_walk {p : Prop} (s : ByteArray) (W : World) (hp : p) (hkw : Kw W) : Calls Tryz.prog 3 #[.string s] W fun e w' => e = .returned (.bool true) ∧ Below W.heap.size W w' := by
 rcases Nat.lt_or_ge 5000 s.size with h | h
 ·exact rights_long s W hkw h
 ·exact rights_any s W hkw h
end Go.Proofs.YtkjgkchdkeggoaaGreatDoor
