/-
  Two texts with a line end between them: plain facts.
-/
import Derived.Test.YtnkgmddaodbpcaaDoorAgain
namespace Go.Proofs.YtnkgmddaodbpcaaDoor
open Go.RowKit
set_option linter.unusedVariables false
set_option linter.unusedSimpArgs false

theorem passN_more {σ : Type} (f : σ → UInt8 → σ × Bool) (q : σ) (l x : List UInt8) (h : passN f q l < l.length) : passN f q (l ++ x) = passN f q l := by
  induction l generalizing q with
  | nil => simp at h
  | cons c r ih =>
    simp only [List.cons_append, passN] at h ⊢
    cases hb : (f q c).2
    · rfl
    · rw [hb] at h
      simp only [cond_true, List.length_cons] at h ⊢
      rw [ih _ (by omega)]
theorem passN_pure_app (g : UInt8 → Bool) (l x : List UInt8) (h : passN (pureF g) () l = l.length) : passN (pureF g) () (l ++ x) = l.length + passN (pureF g) () x := by
  induction l with
  | nil => simp
  | cons c r ih =>
    simp only [List.cons_append, passN, pureF] at h ⊢
    cases hb : g c
    · rw [hb] at h; simp at h
    · rw [hb] at h
      simp only [cond_true, List.length_cons] at h ⊢
      rw [ih (by omega)]; omega
theorem passN_stop (g : UInt8 → Bool) (l : List UInt8) (T : List UInt8) (h : g 10 = false) : passN (pureF g) () (l ++ 10 :: T) = passN (pureF g) () l := by
  by_cases hlt : passN (pureF g) () l < l.length
  · exact passN_more _ _ _ _ hlt
  · have := passN_le (pureF g) () l
    have e : passN (pureF g) () l = l.length := by omega
    rw [passN_pure_app g l _ e, e]
    simp [passN, pureF, h]
theorem headB_app (r T : List UInt8) (x : Int) (h : headB r x = false) (hx : eqB 10 x = false) : headB (r ++ 10 :: T) x = false := by
  cases r with
  | nil => exact hx
  | cons c r => exact h
theorem headB_keep (r x : List UInt8) (n : Int) (h : headB r n = true) : headB (r ++ x) n = true := by
  cases r with
  | nil => simp [headB] at h
  | cons c r => exact h
theorem headB_len (r : List UInt8) (n : Int) (h : headB r n = true) : 0 < r.length := by
  cases r with
  | nil => simp [headB] at h
  | cons c r => simp
theorem take_app_le (l x : List UInt8) (n : Nat) (h : n ≤ l.length) : (l ++ x).take n = l.take n := List.take_append_of_le_length h
/-- A token that is not bad, and is no blank at the end, is the same with a line end behind it. -/
theorem tok_parted (R T : List UInt8) (hR : R ≠ []) (hk : (tokN R).1 ≠ 3) (hb : ¬ ((tokN R).1 = 1 ∧ (tokN R).2 = R.length)) : tokN (R ++ 10 :: T) = tokN R := by
  cases R with
  | nil => exact absurd rfl hR
  | cons c r =>
    have key : tokN ((c :: r) ++ 10 :: T) = bif blankB c then (1, passN (pureF blankB) () ((c :: r) ++ 10 :: T))
        else bif eqB c 34 then quoteN (r ++ 10 :: T)
        else bif eqB c 40 && headB (r ++ 10 :: T) 42 then noteN ((c :: r) ++ 10 :: T)
        else bif restB c then (plainN (((c :: r) ++ 10 :: T).take (passN (pureF restB) () ((c :: r) ++ 10 :: T))), passN (pureF restB) () ((c :: r) ++ 10 :: T))
        else bif signB c then (plainN (((c :: r) ++ 10 :: T).take (passN (pureF signB) () ((c :: r) ++ 10 :: T))), passN (pureF signB) () ((c :: r) ++ 10 :: T))
        else (plainN (((c :: r) ++ 10 :: T).take 1), 1) := rfl
    have own : tokN (c :: r) = bif blankB c then (1, passN (pureF blankB) () (c :: r))
        else bif eqB c 34 then quoteN r
        else bif eqB c 40 && headB r 42 then noteN (c :: r)
        else bif restB c then (plainN ((c :: r).take (passN (pureF restB) () (c :: r))), passN (pureF restB) () (c :: r))
        else bif signB c then (plainN ((c :: r).take (passN (pureF signB) () (c :: r))), passN (pureF signB) () (c :: r))
        else (plainN ((c :: r).take 1), 1) := rfl
    rw [key]
    rw [own] at hk hb ⊢
    clear key own hR
    rw [passN_stop restB (c :: r) T (by decide), passN_stop signB (c :: r) T (by decide), take_app_le _ _ _ (passN_le _ _ _), take_app_le _ _ _ (passN_le _ _ _), take_app_le _ _ 1 (by simp)]
    cases h1 : blankB c
    · cases h2 : eqB c 34
      · cases h3 : (eqB c 40 && headB r 42)
        · have h3' : (eqB c 40 && headB (r ++ 10 :: T) 42) = false := by
            cases h4 : eqB c 40
            · rfl
            · rw [h4, Bool.true_and] at h3; rw [headB_app _ _ _ h3 (by decide)]; rfl
          rw [h3']
          simp only [cond_false]
        · have h3' : (eqB c 40 && headB (r ++ 10 :: T) 42) = true := by
            rw [Bool.and_eq_true] at h3 ⊢
            exact ⟨h3.1, headB_keep _ _ _ h3.2⟩
          rw [h3']
          simp only [h1, h2, h3, cond_false, cond_true] at hk hb ⊢
          unfold noteN at hk ⊢
          simp only at hk ⊢
          cases e : (passN nF (0, 0) (c :: r) == (c :: r).length)
          · have hne : ¬ passN nF (0, 0) (c :: r) = (c :: r).length := by simpa using e
            have hle := passN_le nF (0, 0) (c :: r)
            have hm := passN_more nF (0, 0) (c :: r) (10 :: T) (by omega)
            rw [hm]
            have : (passN nF (0, 0) (c :: r) == (c :: r ++ 10 :: T).length) = false := by
              rw [beq_eq_false_iff_ne, List.length_append]; omega
            rw [this]
          · rw [e] at hk; exact absurd rfl hk
      · simp only [h1, h2, cond_false, cond_true] at hk hb ⊢
        unfold quoteN at hk ⊢
        simp only at hk ⊢
        cases e : headB (r.drop (passN qF false r)) 34
        · rw [e] at hk; exact absurd rfl hk
        · have hl := headB_len _ _ e
          rw [List.length_drop] at hl
          rw [passN_more qF false r (10 :: T) (by omega), List.drop_append_of_le_length (by omega), headB_keep _ _ _ e]
          rfl
    · simp only [h1, cond_true] at hk hb ⊢
      have hle := passN_le (pureF blankB) () (c :: r)
      rw [passN_more (pureF blankB) () (c :: r) (10 :: T) (by
        apply Nat.lt_of_le_of_ne hle
        intro h
        exact hb ⟨trivial, h⟩)]
/-- A blank up to the end takes the line end in, and all blanks behind it. -/
theorem tok_blank (R T : List UInt8) (hR : R ≠ []) (h1 : (tokN R).1 = 1) (h2 : (tokN R).2 = R.length) : tokN (R ++ 10 :: T) = (1, R.length + 1 + passN (pureF blankB) () T) := by
  cases R with
  | nil => exact absurd rfl hR
  | cons c r =>
    have hbk : blankB c = true ∧ passN (pureF blankB) () (c :: r) = (c :: r).length := by
      cases hb : blankB c
      · exfalso
        unfold tokN at h1
        simp only [hb, cond_false] at h1
        cases h2 : eqB c 34
        · cases h3 : (eqB c 40 && headB r 42)
          · simp only [h2, h3, cond_false] at h1
            have hp : ∀ p, plainN p ≠ 1 := by
              intro p
              unfold plainN
              cases p with
              | nil => decide
              | cons a t =>
                simp only
                cases digB a
                · cases hz : (kindN (bsOf (a :: t)) == 0)
                  · simp only [cond_false]
                    unfold kindN
                    rcases beg_cases (bsOf (a :: t)) with h | h | h | h | h <;> rw [h] <;> cases mkB (bsOf (a :: t)) <;> cases allS (bsOf (a :: t)) <;> cases allR (bsOf (a :: t)) <;> cases kwB (bsOf (a :: t)) <;> decide
                  · simp
                · cases passN (pureF digB) () (a :: t) == (a :: t).length <;> simp
            cases h4 : restB c
            · cases h5 : signB c
              · simp only [h4, h5, cond_false] at h1; exact hp _ h1
              · simp only [h4, h5, cond_false, cond_true] at h1; exact hp _ h1
            · simp only [h4, cond_true] at h1; exact hp _ h1
          · simp only [h2, h3, cond_false, cond_true] at h1
            unfold noteN at h1
            simp only at h1
            cases e : (passN nF (0, 0) (c :: r) == (c :: r).length) <;> rw [e] at h1 <;> simp at h1
        · simp only [h2, cond_true] at h1
          unfold quoteN at h1
          simp only at h1
          cases e : headB (r.drop (passN qF false r)) 34 <;> rw [e] at h1 <;> simp at h1
      · refine ⟨rfl, ?_⟩
        unfold tokN at h2
        simp only [hb, cond_true] at h2
        exact h2
    have key : tokN ((c :: r) ++ 10 :: T) = bif blankB c then (1, passN (pureF blankB) () ((c :: r) ++ 10 :: T)) else _ := rfl
    rw [key, hbk.1]
    simp only [cond_true]
    rw [passN_pure_app blankB _ _ hbk.2]
    have : passN (pureF blankB) () (10 :: T) = passN (pureF blankB) () T + 1 := rfl
    rw [this]
    congr 1
    omega
theorem tok_line (T : List UInt8) : tokN (10 :: T) = (1, passN (pureF blankB) () T + 1) := rfl

/-- The tokens that say something, from a place on, but the end. -/
def saysF (a : Nat) (l : List UInt8) : List Tok := pickT saysB (scanF l.length a l)
theorem saysF_nil (a : Nat) : saysF a [] = [] := rfl
theorem saysF_at (a : Nat) (l : List UInt8) (h : l ≠ []) : saysF a l = pickT saysB [⟨(tokN l).1, a, a + (tokN l).2⟩] ++ saysF (a + (tokN l).2) (l.drop (tokN l).2) := by
  have hb := tokN_bound l h
  unfold saysF
  obtain ⟨m, hm⟩ : ∃ m, l.length = m + 1 := ⟨l.length - 1, by omega⟩
  rw [hm]
  have he : l.isEmpty = false := by cases l <;> simp_all
  simp only [scanF, he, cond_false]
  rw [show (⟨(tokN l).1, a, a + (tokN l).2⟩ : Tok) :: scanF m (a + (tokN l).2) (l.drop (tokN l).2) = [⟨(tokN l).1, a, a + (tokN l).2⟩] ++ scanF m (a + (tokN l).2) (l.drop (tokN l).2) from rfl, pickT_append]
  rw [scanF_fuel m (l.drop (tokN l).2).length _ _ (by rw [List.length_drop]; omega) (Nat.le_refl _)]
theorem saysF_blanks (b : Nat) (T : List UInt8) : saysF (b + passN (pureF blankB) () T) (T.drop (passN (pureF blankB) () T)) = saysF b T := by
  cases T with
  | nil => rfl
  | cons c r =>
    cases hb : blankB c
    · have : passN (pureF blankB) () (c :: r) = 0 := by simp [passN, pureF, hb]
      rw [this]; rfl
    · have ht : tokN (c :: r) = (1, passN (pureF blankB) () (c :: r)) := by unfold tokN; simp only [hb, cond_true]
      rw [saysF_at b (c :: r) (by simp), ht]
      rfl
/-- No token of these is bad. -/
def goodF (a : Nat) (l : List UInt8) : Prop := ∀ t ∈ scanF l.length a l, noBad t = true
theorem goodF_at (a : Nat) (l : List UInt8) (h : l ≠ []) (hg : goodF a l) : (tokN l).1 ≠ 3 ∧ goodF (a + (tokN l).2) (l.drop (tokN l).2) := by
  have hb := tokN_bound l h
  unfold goodF at hg ⊢
  obtain ⟨m, hm⟩ : ∃ m, l.length = m + 1 := ⟨l.length - 1, by omega⟩
  rw [hm] at hg
  have he : l.isEmpty = false := by cases l <;> simp_all
  simp only [scanF, he, cond_false] at hg
  rw [scanF_fuel m (l.drop (tokN l).2).length _ _ (by rw [List.length_drop]; omega) (Nat.le_refl _)] at hg
  refine ⟨?_, fun t ht => hg t (List.mem_cons_of_mem _ ht)⟩
  have := hg _ (List.mem_cons_self ..)
  unfold noBad at this
  simpa using this
theorem says_parted (R T : List UInt8) (a : Nat) (hg : goodF a R) : saysF a (R ++ 10 :: T) = saysF a R ++ saysF (a + R.length + 1) T := by
  obtain ⟨m, hm⟩ : ∃ m, m = R.length := ⟨_, rfl⟩
  induction m using Nat.strongRecOn generalizing R a with
  | _ m ih =>
    by_cases hR : R = []
    · subst hR
      rw [List.nil_append, saysF_at a (10 :: T) (by simp), tok_line, saysF_nil, List.nil_append]
      have : pickT saysB [⟨1, a, a + (passN (pureF blankB) () T + 1)⟩] = [] := rfl
      simp only [this, List.nil_append, List.drop_succ_cons]
      have h2 := saysF_blanks (a + 1) T
      rw [show a + 1 + passN (pureF blankB) () T = a + (passN (pureF blankB) () T + 1) from by omega] at h2
      simpa using h2
    · obtain ⟨hk, hg2⟩ := goodF_at a R hR hg
      have hb := tokN_bound R hR
      have hne : R ++ 10 :: T ≠ [] := by simp
      by_cases hbl : (tokN R).1 = 1 ∧ (tokN R).2 = R.length
      · have ht := tok_blank R T hR hbl.1 hbl.2
        rw [saysF_at a _ hne, ht, saysF_at a R hR, hbl.1, hbl.2]
        have e1 : pickT saysB [⟨1, a, a + R.length⟩] = [] := rfl
        have e2 : pickT saysB [⟨1, a, a + (R.length + 1 + passN (pureF blankB) () T)⟩] = [] := rfl
        simp only [e1, e2, List.nil_append, List.drop_length, saysF_nil]
        have hd : (R ++ 10 :: T).drop (R.length + 1 + passN (pureF blankB) () T) = T.drop (passN (pureF blankB) () T) := by
          rw [show R.length + 1 + passN (pureF blankB) () T = R.length + (1 + passN (pureF blankB) () T) from by omega, List.drop_append, List.drop_of_length_le (by omega), List.nil_append, show R.length + (1 + passN (pureF blankB) () T) - R.length = passN (pureF blankB) () T + 1 from by omega, List.drop_succ_cons]
        rw [hd]
        have h2 := saysF_blanks (a + R.length + 1) T
        rw [show a + R.length + 1 + passN (pureF blankB) () T = a + (R.length + 1 + passN (pureF blankB) () T) from by omega] at h2
        exact h2
      · have ht := tok_parted R T hR hk hbl
        rw [saysF_at a _ hne, ht, saysF_at a R hR, List.drop_append_of_le_length hb.2]
        have := ih (R.drop (tokN R).2).length (by rw [List.length_drop]; omega) (R.drop (tokN R).2) (a + (tokN R).2) hg2 rfl
        rw [this, List.append_assoc]
        congr 3
        rw [List.length_drop]; omega
def shiftT (d : Nat) (t : Tok) : Tok := ⟨t.k, t.a + d, t.e + d⟩
theorem scanF_shift (n a d : Nat) (l : List UInt8) : scanF n (a + d) l = (scanF n a l).map (shiftT d) := by
  induction n generalizing a l with
  | zero => rfl
  | succ n ih =>
    cases l with
    | nil => rfl
    | cons c r =>
      simp only [scanF, List.isEmpty_cons, cond_false, List.map_cons]
      rw [show a + d + (tokN (c :: r)).2 = a + (tokN (c :: r)).2 + d from by omega, ih]
      rfl
theorem pickT_shift (ask : Int → Bool) (d : Nat) (l : List Tok) : pickT ask (l.map (shiftT d)) = (pickT ask l).map (shiftT d) := by
  induction l with
  | nil => rfl
  | cons x r ih =>
    simp only [List.map_cons, pickT, shiftT]
    cases ask x.k
    · exact ih
    · simp only [cond_true, List.map_cons, ih]; rfl
theorem wordsT_says (s : ByteArray) : wordsT s = saysF 0 s.data.toList ++ [⟨0, s.size, s.size⟩] := by
  unfold wordsT scanT restT saysF
  rw [pickT_append, List.drop_zero, data_len]
  rfl
theorem first_good (s : ByteArray) (l : List Tok) (h : (firstT s l).2 = 0) : ∀ t ∈ l, noBad t = true := by
  induction l with
  | nil => intro t ht; simp at ht
  | cons x r ih =>
    simp only [firstT] at h
    cases hb : noBad x
    · rw [hb] at h
      exact absurd h (badN_ne s x.a)
    · rw [hb] at h
      intro t ht
      rcases List.mem_cons.1 ht with rfl | ht
      · exact hb
      · exact ih h t ht
/-- The words of two texts with a line end between them. -/
theorem words_parted (s t u : ByteArray) (hu : u.data.toList = s.data.toList ++ 10 :: t.data.toList) (h : (firstN s).2 = 0) :
    ∃ A, wordsT s = A ++ [⟨0, s.size, s.size⟩] ∧ wordsT u = A ++ (wordsT t).map (shiftT (s.size + 1)) := by
  refine ⟨saysF 0 s.data.toList, wordsT_says s, ?_⟩
  have hg : goodF 0 s.data.toList := by
    intro x hx
    apply first_good s _ h
    unfold scanT restT
    rw [List.drop_zero]
    rw [data_len] at hx
    exact List.mem_append_left _ hx
  have hz : u.size = s.size + 1 + t.size := by rw [← data_len, hu, List.length_append, List.length_cons, data_len, data_len]; omega
  rw [wordsT_says u, wordsT_says t, hu, says_parted _ _ 0 hg, List.map_append, List.append_assoc]
  congr 1
  have : saysF (0 + s.data.toList.length + 1) t.data.toList = (saysF 0 t.data.toList).map (shiftT (s.size + 1)) := by
    unfold saysF
    rw [← pickT_shift, ← scanF_shift, data_len]
    simp
  rw [this]
  congr 1
  simp only [List.map_cons, List.map_nil, shiftT, hz]
  congr 2 <;> omega
end Go.Proofs.YtnkgmddaodbpcaaDoor
