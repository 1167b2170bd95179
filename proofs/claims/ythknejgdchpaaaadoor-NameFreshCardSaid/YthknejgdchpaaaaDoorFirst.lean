/-
  There is a first fresh name that is not on the row; it may be in the space.
-/
import Derived.Test.YthknejgdchpaaaaDoorFresh
import Derived.Test.YthknejgdchpaaaaDoorMay
namespace Go.Proofs.YthknejgdchpaaaaDoor
open Go.RowKit
set_option linter.unusedVariables false
set_option linter.unusedSimpArgs false

def fstC (p : Int) : Nat := bif isLow p then 120 else 88
def tailC (k : Nat) : List UInt8 := if k = 0 then [] else Lib.decDigits k
theorem letT_cases (p : Int) (h : (letT p).size = 3) : (isLow p = true ∧ letT p = ⟨#[120, 121, 122]⟩) ∨ (isLow p = false ∧ letT p = ⟨#[88, 89, 90]⟩) := by
  cases h1 : isLow p
  · cases h2 : isUp p
    · unfold letT at h; rw [h1, h2] at h; exact absurd h (by decide)
    · exact .inr ⟨rfl, by unfold letT; rw [h1, h2]; rfl⟩
  · exact .inl ⟨rfl, by unfold letT; rw [h1]; rfl⟩
theorem frT_list (p : Int) (h : (letT p).size = 3) (n : Nat) : (frT (letT p) n).data.toList = UInt8.ofNat (fstC p + n % 3) :: tailC (n / 3) := by
  have hc : n % 3 = 0 ∨ n % 3 = 1 ∨ n % 3 = 2 := by omega
  have ht : ((if n / 3 = 0 then ⟨#[]⟩ else ⟨(Lib.decDigits (n / 3)).toArray⟩ : ByteArray)).data.toList = tailC (n / 3) := by
    unfold tailC; split <;> rfl
  unfold frT fstC
  rw [ByteArray.data_append, Array.toList_append, ht, Lib.extract_data]
  rcases letT_cases p h with ⟨e1, e2⟩ | ⟨e1, e2⟩ <;> rw [e1, e2] <;> rcases hc with e | e | e <;> rw [e] <;> rfl
theorem of_inj (a b : Nat) (ha : a < 256) (hb : b < 256) (h : UInt8.ofNat a = UInt8.ofNat b) : a = b := by
  have := congrArg UInt8.toNat h
  simp at this
  omega
theorem tail_inj (a b : Nat) (ha : a < 100) (hb : b < 100) (h : tailC a = tailC b) : a = b := by
  unfold tailC at h
  by_cases a0 : a = 0
  · by_cases b0 : b = 0
    · omega
    · rw [if_pos a0, if_neg b0] at h
      by_cases b1 : b < 10
      · rw [dd_one b b1] at h; simp at h
      · rw [dd_two b (by omega) hb] at h; simp at h
  · by_cases b0 : b = 0
    · rw [if_pos b0, if_neg a0] at h
      by_cases a1 : a < 10
      · rw [dd_one a a1] at h; simp at h
      · rw [dd_two a (by omega) ha] at h; simp at h
    · rw [if_neg a0, if_neg b0] at h
      by_cases a1 : a < 10 <;> by_cases b1 : b < 10
      · rw [dd_one a a1, dd_one b b1, List.cons.injEq] at h
        have := of_inj _ _ (by omega) (by omega) h.1; omega
      · rw [dd_one a a1, dd_two b (by omega) hb] at h; simp at h
      · rw [dd_two a (by omega) ha, dd_one b b1] at h; simp at h
      · rw [dd_two a (by omega) ha, dd_two b (by omega) hb, List.cons.injEq, List.cons.injEq] at h
        have e1 := of_inj _ _ (by omega) (by omega) h.1
        have e2 := of_inj _ _ (by omega) (by omega) h.2.1
        omega
theorem frT_inj (p : Int) (h : (letT p).size = 3) (i j : Nat) (hi : i < 300) (hj : j < 300) (e : (frT (letT p) i).data.toList = (frT (letT p) j).data.toList) : i = j := by
  rw [frT_list p h, frT_list p h, List.cons.injEq] at e
  have hf : fstC p = 120 ∨ fstC p = 88 := by unfold fstC; cases isLow p <;> simp
  have e1 := of_inj _ _ (by omega) (by omega) e.1
  have e2 := tail_inj _ _ (by omega) (by omega) e.2
  omega
/-- As many different ones as there are places, and one more, do not all lie there. -/
theorem pigeon {α : Type} [BEq α] [LawfulBEq α] : ∀ (ks l : List α), ks.Nodup → (∀ x ∈ ks, x ∈ l) → ks.length ≤ l.length
  | [], l, _, _ => Nat.zero_le _
  | k :: r, l, hn, hs => by
    have hk := hs k (by simp)
    have hn2 := List.nodup_cons.1 hn
    have ih := pigeon r (l.erase k) hn2.2 (fun x hx => (List.mem_erase_of_ne (by intro e; subst e; exact hn2.1 hx)).2 (hs x (by simp [hx])))
    rw [List.length_erase_of_mem hk] at ih
    have := List.length_pos_of_mem hk
    simp
    omega
theorem nodup_map_range (f : Nat → List UInt8) (n : Nat) (h : ∀ i j, i < n → j < n → f i = f j → i = j) : ((List.range n).map f).Nodup := by
  induction n with
  | zero => simp
  | succ k ih =>
    rw [List.range_succ, List.map_append, List.map_singleton, List.nodup_append]
    refine ⟨ih (fun i j hi hj e => h i j (by omega) (by omega) e), by simp, ?_⟩
    intro a ha b hb e
    simp at hb
    subst hb
    subst e
    obtain ⟨i, hi, e⟩ := List.mem_map.1 ha
    rw [List.mem_range] at hi
    have := h i k (by omega) (by omega) e
    omega
theorem inB_data (l : List ByteArray) (s : ByteArray) : inB l s = true ↔ s.data.toList ∈ l.map (fun t => t.data.toList) := by
  unfold inB
  rw [List.any_eq_true, List.mem_map]
  constructor
  · rintro ⟨t, ht, e⟩
    rw [beq_iff_eq, Lib.toList_data, Lib.toList_data] at e
    exact ⟨t, ht, e⟩
  · rintro ⟨t, ht, e⟩
    exact ⟨t, ht, by rw [beq_iff_eq, Lib.toList_data, Lib.toList_data]; exact e⟩
theorem some_free (p : Int) (h : (letT p).size = 3) (l : List ByteArray) (hl : l.length ≤ 200) : ∃ n, n ≤ l.length ∧ inB l (frT (letT p) n) = false := by
  apply Classical.byContradiction
  intro hc
  have hall : ∀ n, n ≤ l.length → inB l (frT (letT p) n) = true := fun n hn => by
    cases e : inB l (frT (letT p) n)
    · exact absurd ⟨n, hn, e⟩ hc
    · rfl
  have hnd := nodup_map_range (fun n => (frT (letT p) n).data.toList) (l.length + 1) (fun i j hi hj e => frT_inj p h i j (by omega) (by omega) e)
  have := pigeon _ (l.map (fun t => t.data.toList)) hnd (by
    intro x hx
    obtain ⟨n, hn, e⟩ := List.mem_map.1 hx
    rw [List.mem_range] at hn
    rw [← e]
    exact (inB_data l _).1 (hall n (by omega)))
  simp at this
  omega
theorem first_of (f : Nat → Bool) : ∀ m, (∃ n, n ≤ m ∧ f n = false) → ∃ N, N ≤ m ∧ f N = false ∧ ∀ j, j < N → f j = true
  | 0, ⟨n, hn, e⟩ => ⟨0, Nat.le_refl _, by rw [show n = 0 by omega] at e; exact e, fun j hj => absurd hj (by omega)⟩
  | m + 1, ⟨n, hn, e⟩ => by
    by_cases hx : ∃ n, n ≤ m ∧ f n = false
    · obtain ⟨N, h1, h2, h3⟩ := first_of f m hx
      exact ⟨N, by omega, h2, h3⟩
    · have hlt : ∀ j, j ≤ m → f j = true := fun j hj => by
        cases ej : f j
        · exact absurd ⟨j, hj, ej⟩ hx
        · rfl
      have hn' : n = m + 1 := by
        by_cases h : n ≤ m
        · rw [hlt n h] at e; exact absurd e (by simp)
        · omega
      subst hn'
      exact ⟨m + 1, Nat.le_refl _, e, fun j hj => hlt j (by omega)⟩
theorem first_is (p : Int) (h : (letT p).size = 3) (l : List ByteArray) (hl : l.length ≤ 200) : ∃ N, First (letT p) l N := by
  obtain ⟨N, h1, h2, h3⟩ := first_of (fun n => inB l (frT (letT p) n)) l.length (some_free p h l hl)
  exact ⟨N, h1, h2, h3⟩

theorem dig_rest (k : Nat) (h : k < 10) : restB (UInt8.ofNat (48 + k)) = true := by
  have hd : digB (UInt8.ofNat (48 + k)) = true := by unfold digB; simp; omega
  unfold restB; rw [hd]; simp
theorem tail_rest (k : Nat) (h : k < 100) : (tailC k).all restB = true := by
  unfold tailC
  split
  · rfl
  · by_cases h1 : k < 10
    · rw [dd_one k h1, List.all_cons, dig_rest k h1]; rfl
    · rw [dd_two k (by omega) h, List.all_cons, List.all_cons, dig_rest _ (show k / 10 < 10 by omega), dig_rest _ (show k % 10 < 10 by omega)]; rfl
theorem frT_pos (p : Int) (h : (letT p).size = 3) (n : Nat) : 0 < (frT (letT p) n).size := by
  rw [← data_len, frT_list p h]; simp
theorem frT_first (p : Int) (h : (letT p).size = 3) (n : Nat) : (frT (letT p) n)[0]'(frT_pos p h n) = UInt8.ofNat (fstC p + n % 3) := by
  rw [← data_at _ 0 (frT_pos p h n)]
  simp only [frT_list p h]
  rfl
theorem kw_first (s : ByteArray) (c : UInt8) (r : List UInt8) (h : s.data.toList = c :: r) (hc : 120 ≤ c.toNat) : kwB s = false := by
  cases e : kwB s
  · rfl
  · have hm := inB_mem e
    simp only [kwT, List.mem_cons, List.not_mem_nil, or_false] at hm
    rcases hm with e | e | e | e | e | e | e | e | e | e | e | e | e | e | e | e | e | e | e | e | e | e | e | e | e <;> subst e <;> simp at h <;> obtain ⟨h1, _⟩ := h <;> subst h1 <;> simp at hc
theorem frT_rest (p : Int) (h : (letT p).size = 3) (n : Nat) (hn : n < 300) : allR (frT (letT p) n) = true := by
  unfold allR
  rw [frT_list p h, List.all_cons, tail_rest (n / 3) (by omega), Bool.and_true]
  unfold fstC
  cases isLow p
  · exact cap_rest _ (by unfold capB; simp; omega)
  · exact low_rest _ (by unfold lowB; simp; omega)
theorem frT_may (p : Int) (h : (letT p).size = 3) (n : Nat) (hn : n < 300) : mayB p (frT (letT p) n) = true := by
  have hp := frT_pos p h n
  have hf := frT_first p h n
  have hr := frT_rest p h n hn
  have hb := beg_eq _ hp
  rw [hf] at hb
  cases hl : isLow p
  · have hu : isUp p = true := by
      cases h2 : isUp p
      · unfold letT at h; rw [hl, h2] at h; exact absurd h (by decide)
      · rfl
    have e1 : lowB (UInt8.ofNat (fstC p + n % 3)) = false := by unfold fstC lowB; rw [hl]; simp; omega
    have e2 : capB (UInt8.ofNat (fstC p + n % 3)) = true := by unfold fstC capB; rw [hl]; simp; omega
    rw [e1, e2] at hb
    simp only [cond_true, cond_false] at hb
    have hk : kindN (frT (letT p) n) = 7 := by
      unfold kindN
      rw [mk_not _ (.inr (.inl hb)), hb, hr, kw_not _ (by omega)]; rfl
    unfold mayB
    rw [hk]
    unfold isUp at hu
    simp at hu
    rcases hu with ((rfl | rfl) | rfl) | rfl <;> rfl
  · have e1 : lowB (UInt8.ofNat (fstC p + n % 3)) = true := by unfold fstC lowB; rw [hl]; simp; omega
    rw [e1] at hb
    simp only [cond_true] at hb
    have hk : kindN (frT (letT p) n) = 6 := by
      unfold kindN
      rw [mk_not _ (.inl hb), hb, hr, kw_first _ _ _ (frT_list p h n) (by unfold fstC; rw [hl]; simp; omega)]; rfl
    unfold mayB
    rw [hk]
    unfold isLow at hl
    simp at hl
    rcases hl with rfl | rfl <;> rfl
end Go.Proofs.YthknejgdchpaaaaDoor
