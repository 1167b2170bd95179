/-
  Pairs in order, each once: plain facts.
-/
import Derived.Test.YtggoajpemffbiaaCn
namespace Go.Proofs.Ytggoajpemffbiaa

def plt (a b : P2) : Bool := decide (a.1 < b.1) || decide (a.1 = b.1) && decide (a.2 < b.2)
theorem plt_iff (a b : P2) : plt a b = true ↔ a.1 < b.1 ∨ a.1 = b.1 ∧ a.2 < b.2 := by simp [plt]
theorem plt_irr (a : P2) : plt a a = false := by simp [plt]
theorem plt_trans {a b c : P2} (h : plt a b = true) (g : plt b c = true) : plt a c = true := by
  rw [plt_iff] at *; omega
theorem plt_total {a b : P2} (h : plt a b = false) (g : plt b a = false) : a = b := by
  have h1 : ¬ plt a b = true := by simp [h]
  have h2 : ¬ plt b a = true := by simp [g]
  rw [plt_iff] at h1 h2
  exact Prod.ext (by omega) (by omega)
theorem plt_asym {a b : P2} (h : plt a b = true) : plt b a = false := by
  cases hb : plt b a with
  | false => rfl
  | true => have := plt_trans h hb; rw [plt_irr] at this; cases this
def Rise (l : List P2) : Prop := l.Pairwise fun a b => plt a b = true
/-- Two rows that rise and have the same pairs are the same. -/
theorem rise_ext : ∀ {l m : List P2}, Rise l → Rise m → (∀ x, x ∈ l ↔ x ∈ m) → l = m
  | [], [], _, _, _ => rfl
  | [], y :: m, _, _, h => by have := (h y).2 (by simp); simp at this
  | x :: l, [], _, _, h => by have := (h x).1 (by simp); simp at this
  | x :: l, y :: m, hl, hm, h => by
    obtain ⟨h1, h2⟩ := List.pairwise_cons.1 hl
    obtain ⟨h3, h4⟩ := List.pairwise_cons.1 hm
    have hxy : x = y := by
      rcases List.mem_cons.1 ((h x).1 (by simp)) with e | e
      · exact e
      · rcases List.mem_cons.1 ((h y).2 (by simp)) with e2 | e2
        · exact e2.symm
        · have a1 := h3 x e
          have a2 := h1 y e2
          rw [plt_asym a1] at a2; cases a2
    subst hxy
    congr 1
    refine rise_ext h2 h4 fun z => ?_
    constructor
    · intro hz
      rcases List.mem_cons.1 ((h z).1 (by simp [hz])) with e | e
      · subst e; have := h1 z hz; rw [plt_irr] at this; cases this
      · exact e
    · intro hz
      rcases List.mem_cons.1 ((h z).2 (by simp [hz])) with e | e
      · subst e; have := h3 z hz; rw [plt_irr] at this; cases this
      · exact e
/-- The lesser number of a pair ahead. -/
def nrm (p : P2) : P2 := (min p.1 p.2, max p.1 p.2)
def odd (p : P2) : Bool := decide (p.1 ≠ p.2)
def lnk (l : List P2) : List P2 := (l.filter odd).map nrm
theorem mem_lnk {l : List P2} {x : P2} : x ∈ lnk l ↔ ∃ p ∈ l, p.1 ≠ p.2 ∧ nrm p = x := by
  simp [lnk, odd, and_assoc]
theorem lnk_snoc (l : List P2) (p : P2) : lnk (l ++ [p]) = lnk l ++ (bif odd p then [nrm p] else []) := by
  cases h : odd p <;> simp [lnk, h]

def above (p : P2) : Option P2 → Bool
  | some q => plt p q
  | none => false
/-- The place from which on all are above a pair. -/
def kdown (out : List P2) (p : P2) : Nat → Nat
  | 0 => 0
  | k + 1 => if above p out[k]? = true then kdown out p k else k + 1
theorem kdown_le (out : List P2) (p : P2) : ∀ k, kdown out p k ≤ k
  | 0 => Nat.le_refl _
  | k + 1 => by
    unfold kdown
    split
    · exact Nat.le_succ_of_le (kdown_le out p k)
    · exact Nat.le_refl _
theorem kdown_above (out : List P2) (p : P2) : ∀ k, ∀ i q, kdown out p k ≤ i → i < k → out[i]? = some q → plt p q = true
  | 0, i, q, _, h, _ => by omega
  | k + 1, i, q, h1, h2, h3 => by
    unfold kdown at h1
    split at h1
    · rename_i hk
      by_cases hi : i = k
      · subst hi; rw [h3] at hk; exact hk
      · exact kdown_above out p k i q h1 (by omega) h3
    · omega
theorem kdown_last (out : List P2) (p : P2) : ∀ k q, 0 < kdown out p k → out[kdown out p k - 1]? = some q → plt p q = false
  | 0, _, h, _ => by simp [kdown] at h
  | k + 1, q, h, hq => by
    unfold kdown at h hq
    split at h
    · rename_i hk
      rw [if_pos hk] at hq
      exact kdown_last out p k q h hq
    · rename_i hk
      rw [if_neg hk] at hq
      simp only [Nat.add_sub_cancel] at hq
      rw [hq] at hk
      simpa [above] using hk
/-- A pair is put into a row, unless it stands there. -/
def put (out : List P2) (p : P2) : List P2 :=
  let k := kdown out p out.length
  bif decide (p.1 = p.2) || (decide (0 < k) && decide (out[k - 1]? = some p)) then out else out.take k ++ [p] ++ out.drop k
theorem put_mem {out : List P2} {p : P2} (x : P2) : x ∈ put out p ↔ x ∈ out ∨ (x = p ∧ p.1 ≠ p.2) := by
  unfold put
  simp only
  generalize hk : kdown out p out.length = k
  by_cases h1 : p.1 = p.2
  · simp [h1]
  · by_cases h2 : 0 < k ∧ out[k - 1]? = some p
    · have : p ∈ out := List.mem_of_getElem? h2.2
      simp [h1, h2.1, h2.2]
      rintro rfl; exact this
    · have hb : (decide (p.1 = p.2) || (decide (0 < k) && decide (out[k - 1]? = some p))) = false := by
        simp only [Bool.or_eq_false_iff, Bool.and_eq_false_iff, decide_eq_false_iff_not]
        refine ⟨h1, ?_⟩
        by_cases hk0 : 0 < k
        · right; exact fun e => h2 ⟨hk0, e⟩
        · left; exact hk0
      rw [hb]
      have e : x ∈ out ↔ x ∈ out.take k ∨ x ∈ out.drop k := by
        rw [← List.mem_append, List.take_append_drop]
      simp only [cond_false, List.mem_append, List.mem_singleton, e]
      constructor
      · rintro ((h | h) | h)
        · exact .inl (.inl h)
        · exact .inr ⟨h, h1⟩
        · exact .inl (.inr h)
      · rintro ((h | h) | ⟨h, _⟩)
        · exact .inl (.inl h)
        · exact .inr h
        · exact .inl (.inr h)
theorem put_rise {out : List P2} (h : Rise out) (p : P2) : Rise (put out p) := by
  unfold put
  simp only
  generalize hk : kdown out p out.length = k
  cases hb : (decide (p.1 = p.2) || (decide (0 < k) && decide (out[k - 1]? = some p))) with
  | true => exact h
  | false =>
    have hkl : k ≤ out.length := by rw [← hk]; exact kdown_le _ _ _
    have hab : ∀ q ∈ out.drop k, plt p q = true := fun q hq => by
      obtain ⟨i, hi, e⟩ := List.mem_iff_getElem.1 hq
      rw [List.getElem_drop] at e
      exact kdown_above out p out.length (k + i) q (by omega) (by simp at hi; omega) (by rw [← e]; exact List.getElem?_eq_getElem _)
    have hbe : ∀ q ∈ out.take k, plt q p = true := fun q hq => by
      obtain ⟨i, hi, e⟩ := List.mem_iff_getElem.1 hq
      simp only [List.length_take] at hi
      rw [List.getElem_take] at e
      have hk0 : 0 < k := by omega
      obtain ⟨z, hz⟩ : ∃ z, out[k - 1]? = some z := ⟨_, List.getElem?_eq_getElem (by omega)⟩
      have hzp : plt p z = false := kdown_last out p out.length z (by omega) (by rw [hk]; exact hz)
      have hne : z ≠ p := by
        intro e; subst e
        simp [hk0, hz] at hb
      have hzp2 : plt z p = true := by
        cases hc : plt z p with
        | true => rfl
        | false => exact absurd (plt_total hc hzp) hne
      by_cases hik : i = k - 1
      · have : q = z := by
          have h1 : out[i]? = some q := by rw [← e]; exact List.getElem?_eq_getElem _
          rw [hik, hz] at h1; exact (Option.some.inj h1).symm
        subst this; exact hzp2
      · have hiz := (List.pairwise_iff_getElem.1 h) i (k - 1) (by omega) (by omega) (by omega)
        have ez : out[k - 1] = z := by
          have := List.getElem?_eq_getElem (l := out) (i := k - 1) (by omega)
          rw [hz] at this; exact (Option.some.inj this).symm
        rw [e, ez] at hiz
        exact plt_trans hiz hzp2
    show Rise (out.take k ++ [p] ++ out.drop k)
    unfold Rise at h ⊢
    rw [List.pairwise_append, List.pairwise_append]
    refine ⟨⟨h.sublist (List.take_sublist _ _), by simp, fun a ha c hc => ?_⟩, h.sublist (List.drop_sublist _ _), fun a ha c hc => ?_⟩
    · simp only [List.mem_singleton] at hc; subst hc; exact hbe a ha
    · rcases List.mem_append.1 ha with ha | ha
      · exact plt_trans (hbe a ha) (hab c hc)
      · simp only [List.mem_singleton] at ha; subst ha; exact hab c hc
def puts (l : List P2) : List P2 := l.foldl (fun o p => put o (nrm p)) []
theorem puts_snoc (l : List P2) (p : P2) : puts (l ++ [p]) = put (puts l) (nrm p) := by simp [puts]
theorem nrm_ne (p : P2) : (nrm p).1 ≠ (nrm p).2 ↔ p.1 ≠ p.2 := by
  simp only [nrm]; omega
theorem snocRec {α : Type} {P : List α → Prop} (h0 : P []) (h1 : ∀ l x, P l → P (l ++ [x])) (l : List α) : P l := by
  have : ∀ r : List α, P r.reverse := by
    intro r
    induction r with
    | nil => exact h0
    | cons x r ih => rw [List.reverse_cons]; exact h1 _ _ ih
  have := this l.reverse
  rwa [List.reverse_reverse] at this
theorem puts_rise (l : List P2) : Rise (puts l) := by
  induction l using snocRec with
  | h0 => exact List.Pairwise.nil
  | h1 l p ih => rw [puts_snoc]; exact put_rise ih _
theorem puts_mem (l : List P2) (x : P2) : x ∈ puts l ↔ x ∈ lnk l := by
  induction l using snocRec with
  | h0 => simp [puts, lnk]
  | h1 l p ih =>
    rw [puts_snoc, put_mem, ih, lnk_snoc, List.mem_append, nrm_ne]
    cases h : odd p <;> simp [odd] at h <;> simp [h]
theorem put_len (out : List P2) (p : P2) : (put out p).length ≤ out.length + 1 := by
  unfold put
  simp only
  generalize kdown out p out.length = k
  cases (decide (p.1 = p.2) || (decide (0 < k) && decide (out[k - 1]? = some p))) with
  | true => simp
  | false => simp; omega
theorem puts_len (l : List P2) : (puts l).length ≤ l.length := by
  induction l using snocRec with
  | h0 => simp [puts]
  | h1 l p ih => rw [puts_snoc]; have := put_len (puts l) (nrm p); simp; omega

/-- Of those that are the same and stand side by side the last ones. -/
def dd : List P2 → List P2
  | [] => []
  | [x] => [x]
  | x :: y :: r => bif decide (x = y) then dd (y :: r) else x :: dd (y :: r)
theorem dd_mem : ∀ (l : List P2) (x : P2), x ∈ dd l ↔ x ∈ l
  | [], _ => Iff.rfl
  | [x], _ => Iff.rfl
  | x :: y :: r, z => by
    have ih := dd_mem (y :: r) z
    unfold dd
    by_cases h : x = y
    · subst h; simp only [decide_true, cond_true, ih]; simp
    · simp only [h, decide_false, cond_false, List.mem_cons (a := z) (b := x), ih]
theorem dd_rise : ∀ {l : List P2}, l.Pairwise (fun a b => plt b a = false) → Rise (dd l)
  | [], _ => List.Pairwise.nil
  | [x], _ => by simp [dd, Rise]
  | x :: y :: r, h => by
    obtain ⟨h1, h2⟩ := List.pairwise_cons.1 h
    have ih := dd_rise h2
    unfold dd
    by_cases e : x = y
    · subst e; simpa using ih
    · simp only [e, decide_false, cond_false]
      refine List.pairwise_cons.2 ⟨fun z hz => ?_, ih⟩
      have hxy : plt x y = true := by
        cases hc : plt x y with
        | true => rfl
        | false => exact absurd (plt_total hc (h1 y (by simp))) e
      rcases List.mem_cons.1 ((dd_mem (y :: r) z).1 hz) with rfl | hz
      · exact hxy
      · have := (List.pairwise_cons.1 h2).1 z hz
        cases hc : plt x z with
        | true => rfl
        | false =>
          have hzx := h1 z (by simp [hz])
          have e2 := plt_total hc hzx
          rw [← e2, hxy] at this
          cases this
theorem lks_eq (l m : List P2) (hm : m.Pairwise fun a b => plt b a = false) (hmem : ∀ x, x ∈ m ↔ x ∈ lnk l) : dd m = puts l :=
  rise_ext (dd_rise hm) (puts_rise l) fun x => by rw [dd_mem, hmem, puts_mem]
theorem puts_cn (l : List P2) (a b : Int) : Cn (puts l) a b ↔ Cn l a b := by
  constructor
  · intro h
    refine h.mono fun p hp => ?_
    obtain ⟨q, hq, _, e⟩ := mem_lnk.1 ((puts_mem l p).1 hp)
    have hc := Cn.pair hq
    rw [← e]
    unfold nrm
    rcases Int.le_total q.1 q.2 with h1 | h1
    · rw [Int.min_eq_left h1, Int.max_eq_right h1]; exact hc
    · rw [Int.min_eq_right h1, Int.max_eq_left h1]; exact hc.symm
  · intro h
    refine h.mono fun p hp => ?_
    by_cases e : p.1 = p.2
    · rw [e]; exact Cn.refl _ _
    · have hm := (puts_mem l (nrm p)).2 (mem_lnk.2 ⟨p, hp, e, rfl⟩)
      have hc := Cn.pair hm
      unfold nrm at hc
      rcases Int.le_total p.1 p.2 with h1 | h1
      · simp only [Int.min_eq_left h1, Int.max_eq_right h1] at hc; exact hc
      · simp only [Int.min_eq_right h1, Int.max_eq_left h1] at hc; exact hc.symm
end Go.Proofs.Ytggoajpemffbiaa
