/-
  The document's Rising: a list's numbers, rising, each once: the plain facts.
-/
import Derived.Test.YtlfnefgcndhomaaSet
namespace Go.Proofs.Ytlfnefgcndhomaa
set_option linter.unusedVariables false

/-- Those of s below n, and those from n + 1 on. -/
def lowS (s : Nat → Bool) (n : Nat) : List Int := ((List.range n).filter s).map Int.ofNat
def highS (s : Nat → Bool) (n : Nat) : List Int := ((List.range' (n + 1) (65535 - n)).filter s).map Int.ofNat
theorem range_split (n : Nat) (h : n ≤ 65535) : List.range 65536 = List.range n ++ n :: List.range' (n + 1) (65535 - n) := by
  have h1 : List.range 65536 = List.range' 0 65536 := List.range_eq_range'
  have h2 : List.range n = List.range' 0 n := List.range_eq_range'
  rw [h1, h2, show 65536 = n + (1 + (65535 - n)) by omega, ← List.range'_append_1, ← List.range'_append_1]
  simp
theorem lst_split (s : Nat → Bool) (n : Nat) (h : n ≤ 65535) : lst s = lowS s n ++ ((bif s n then [(n : Int)] else []) ++ highS s n) := by
  unfold lst lowS highS
  rw [range_split n h, List.filter_append, List.map_append, List.filter_cons]
  cases s n <;> simp
theorem lowS_lt (s : Nat → Bool) (n : Nat) : ∀ x ∈ lowS s n, x < (n : Int) := by
  intro x hx
  unfold lowS at hx
  obtain ⟨y, hy, rfl⟩ := List.mem_map.1 hx
  have := List.mem_range.1 (List.mem_filter.1 hy).1
  show (y : Int) < n
  omega
theorem highS_gt (s : Nat → Bool) (n : Nat) : ∀ x ∈ highS s n, (n : Int) < x := by
  intro x hx
  unfold highS at hx
  obtain ⟨y, hy, rfl⟩ := List.mem_map.1 hx
  have := (List.mem_range'_1.1 (List.mem_filter.1 hy).1).1
  show (n : Int) < (y : Int)
  omega
theorem lowS_congr (s t : Nat → Bool) (n : Nat) (h : ∀ x, x ≠ n → s x = t x) : lowS s n = lowS t n := by
  unfold lowS
  rw [List.filter_congr (fun x hx => h x (by have := List.mem_range.1 hx; omega))]
theorem highS_congr (s t : Nat → Bool) (n : Nat) (h : ∀ x, x ≠ n → s x = t x) : highS s n = highS t n := by
  unfold highS
  rw [List.filter_congr (fun x hx => h x (by have := (List.mem_range'_1.1 hx).1; omega))]
theorem lst_congr (s t : Nat → Bool) (h : ∀ x, x < 65536 → s x = t x) : lst s = lst t := by
  unfold lst
  rw [List.filter_congr (fun x hx => h x (List.mem_range.1 hx))]
theorem mem_lst (s : Nat → Bool) (x : Int) : x ∈ lst s ↔ (mayB x = true ∧ s x.toNat = true) := by
  unfold lst
  rw [List.mem_map]
  constructor
  · rintro ⟨y, hy, rfl⟩
    have h1 := List.mem_range.1 (List.mem_filter.1 hy).1
    have h2 := (List.mem_filter.1 hy).2
    refine ⟨by simp [mayB]; omega, ?_⟩
    show s ((y : Int)).toNat = true
    rw [Int.toNat_natCast]; exact h2
  · rintro ⟨h1, h2⟩
    have h3 : 0 ≤ x ∧ x ≤ 65535 := by simpa [mayB] using h1
    refine ⟨x.toNat, List.mem_filter.2 ⟨List.mem_range.2 (by omega), h2⟩, ?_⟩
    show ((x.toNat : Nat) : Int) = x
    omega
/-- What Rising has of a list's numbers. -/
def inS (l : List Int) : Nat → Bool := fun v => decide ((v : Int) ∈ l)
theorem inS_nil : lst (inS []) = [] := by
  have : lst (inS []) = lst (fun _ => false) := lst_congr _ _ (fun x _ => by simp [inS])
  rw [this]
  unfold lst
  simp
/-- A number that may not be in, or is in, changes nothing. -/
theorem rise_skip (l : List Int) (n : Int) (h : mayB n = false ∨ n ∈ lst (inS l)) : lst (inS (l ++ [n])) = lst (inS l) := by
  refine lst_congr _ _ fun x hx => ?_
  unfold inS
  rw [decide_eq_decide, List.mem_append, List.mem_singleton]
  constructor
  · rintro (h1 | h1)
    · exact h1
    · rcases h with h2 | h2
      · simp [mayB] at h2; omega
      · have := ((mem_lst _ _).1 h2).2
        rw [← h1, Int.toNat_natCast] at this
        simpa [inS] using this
  · exact .inl
/-- A new one is put between those below it and those above it. -/
theorem rise_put (l : List Int) (n : Nat) (hn : n ≤ 65535) (h : ¬ (n : Int) ∈ lst (inS l)) :
    lst (inS l) = lowS (inS l) n ++ highS (inS l) n ∧ lst (inS (l ++ [(n : Int)])) = lowS (inS l) n ++ ([(n : Int)] ++ highS (inS l) n) := by
  have hmay : mayB (n : Int) = true := by simp [mayB]; omega
  have hs : inS l n = false := by
    cases hx : inS l n with
    | false => rfl
    | true => exact absurd ((mem_lst _ _).2 ⟨hmay, by rw [Int.toNat_natCast]; exact hx⟩) h
  have hs' : inS (l ++ [(n : Int)]) n = true := by simp [inS]
  have hc : ∀ x, x ≠ n → inS (l ++ [(n : Int)]) x = inS l x := by
    intro x hx
    unfold inS
    rw [decide_eq_decide, List.mem_append, List.mem_singleton]
    constructor
    · rintro (h1 | h1)
      · exact h1
      · omega
    · exact .inl
  refine ⟨?_, ?_⟩
  · rw [lst_split (inS l) n hn, hs]; rfl
  · rw [lst_split _ n hn, hs', lowS_congr _ _ n hc, highS_congr _ _ n hc]; rfl
end Go.Proofs.Ytlfnefgcndhomaa
