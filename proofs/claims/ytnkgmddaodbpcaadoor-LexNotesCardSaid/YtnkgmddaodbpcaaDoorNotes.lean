/-
  Notes within notes: plain facts.
-/
import Derived.Test.YtnkgmddaodbpcaaDoorAgain
namespace Go.Proofs.YtnkgmddaodbpcaaDoor
open Go.RowKit
set_option linter.unusedVariables false
set_option linter.unusedSimpArgs false

/-- Letters from a to e. -/
def aeB (c : UInt8) : Bool := decide (97 ≤ c.toNat ∧ c.toNat ≤ 101)
/-- n notes within one another. -/
def nestL (x : List UInt8) : Nat → List UInt8
  | 0 => []
  | n + 1 => 40 :: 42 :: (x ++ nestL x n ++ x ++ [42, 41])
theorem nestL_length (x : List UInt8) (n : Nat) : (nestL x n).length = n * (4 + 2 * x.length) := by
  induction n with
  | zero => simp [nestL]
  | succ n ih =>
    have h : (n + 1) * (4 + 2 * x.length) = n * (4 + 2 * x.length) + (4 + 2 * x.length) := Nat.succ_mul _ _
    simp only [nestL, List.length_cons, List.length_append, List.length_nil]
    rw [ih, h]
    generalize n * (4 + 2 * x.length) = m
    omega
/-- A byte that is neither ( nor *. -/
def dull (c : UInt8) : Prop := c ≠ 40 ∧ c ≠ 42
theorem ae_dull {c : UInt8} (h : aeB c = true) : dull c := by
  unfold aeB at h
  simp at h
  constructor <;> (intro e; subst e; simp at h)
theorem nF_dull (d : Int) (h c : UInt8) (hh : dull h) : nF (d, h) c = ((d, c), true) := by
  have h1 : eqB h 40 = false := by
    cases e : eqB h 40
    · rfl
    · exact absurd (eqB_eq (n := 40) e) hh.1
  have h2 : eqB h 42 = false := by
    cases e : eqB h 42
    · rfl
    · exact absurd (eqB_eq (n := 42) e) hh.2
  unfold nF
  simp only [h1, h2, Bool.false_and, cond_false]
/-- Letters are passed over, and leave the depth. -/
theorem pass_letters (x : List UInt8) (hx : ∀ c ∈ x, aeB c = true) (d : Int) (h : UInt8) (hh : dull h) (r : List UInt8) :
    ∃ h', dull h' ∧ passN nF (d, h) (x ++ r) = x.length + passN nF (d, h') r := by
  induction x generalizing h with
  | nil => exact ⟨h, hh, by simp⟩
  | cons c t ih =>
    obtain ⟨h', hd, e⟩ := ih (fun c hc => hx c (by simp [hc])) c (ae_dull (hx c (by simp)))
    refine ⟨h', hd, ?_⟩
    simp only [List.cons_append, passN, nF_dull d h c hh, cond_true, e, List.length_cons]
    omega
theorem dull0 : dull 0 := by constructor <;> decide
theorem nF_star (d : Int) : nF (d, 40) 42 = ((d + 1, 0), true) := rfl
theorem nF_close (d : Int) : nF (d, 42) 41 = ((d - 1, 0), decide (0 < d - 1)) := rfl
/-- A note at a depth of one at least is passed over. -/
theorem pass_nest (x : List UInt8) (hx : ∀ c ∈ x, aeB c = true) (n : Nat) (d : Int) (hd : 1 ≤ d) (h : UInt8) (hh : dull h) (r : List UInt8) :
    ∃ h', dull h' ∧ passN nF (d, h) (nestL x n ++ r) = (nestL x n).length + passN nF (d, h') r := by
  induction n generalizing d h r with
  | zero => exact ⟨h, hh, by simp [nestL]⟩
  | succ n ih =>
    refine ⟨0, dull0, ?_⟩
    obtain ⟨h1, k1, e1⟩ := pass_letters x hx (d + 1) 0 dull0 (nestL x n ++ (x ++ ([42, 41] ++ r)))
    obtain ⟨h2, k2, e2⟩ := ih (d + 1) (by omega) h1 k1 (x ++ ([42, 41] ++ r))
    obtain ⟨h3, k3, e3⟩ := pass_letters x hx (d + 1) h2 k2 ([42, 41] ++ r)
    have e4 : passN nF (d + 1, h3) ([42, 41] ++ r) = 2 + passN nF (d, 0) r := by
      have hp : decide (0 < d) = true := decide_eq_true (by omega)
      simp only [List.cons_append, List.nil_append, passN, nF_dull _ h3 42 k3, nF_close, cond_true, show d + 1 - 1 = d from by omega, hp]
      omega
    have e0 : passN nF (d, h) (nestL x (n + 1) ++ r) = 2 + passN nF (d + 1, 0) (x ++ (nestL x n ++ (x ++ ([42, 41] ++ r)))) := by
      simp only [nestL, List.cons_append, List.append_assoc, passN, nF_dull _ h 40 hh, nF_star, cond_true]
      omega
    rw [e0, e1, e2, e3, e4]
    simp only [nestL, List.length_cons, List.length_append, List.length_nil]
    omega
/-- The outermost note, closed: the machine stops at its last byte. -/
theorem note_closed (x : List UInt8) (hx : ∀ c ∈ x, aeB c = true) (n : Nat) (r : List UInt8) : passN nF (0, 0) (nestL x (n + 1) ++ r) = (nestL x (n + 1)).length - 1 := by
  obtain ⟨h1, k1, e1⟩ := pass_letters x hx 1 0 dull0 (nestL x n ++ (x ++ ([42, 41] ++ r)))
  obtain ⟨h2, k2, e2⟩ := pass_nest x hx n 1 (by omega) h1 k1 (x ++ ([42, 41] ++ r))
  obtain ⟨h3, k3, e3⟩ := pass_letters x hx 1 h2 k2 ([42, 41] ++ r)
  have e4 : passN nF (1, h3) ([42, 41] ++ r) = 1 := by
    simp only [List.cons_append, List.nil_append, passN, nF_dull _ h3 42 k3, nF_close, cond_true]
    rfl
  have e0 : passN nF (0, 0) (nestL x (n + 1) ++ r) = 2 + passN nF (1, 0) (x ++ (nestL x n ++ (x ++ ([42, 41] ++ r)))) := by
    simp only [nestL, List.cons_append, List.append_assoc, passN, nF_dull _ 0 40 dull0, nF_star, cond_true]
    simp only [show (0 : Int) + 1 = 1 from rfl]
    omega
  rw [e0, e1, e2, e3, e4]
  simp only [nestL, List.length_cons, List.length_append, List.length_nil]
  omega
/-- Without its last end all is passed over. -/
theorem note_opened (x : List UInt8) (hx : ∀ c ∈ x, aeB c = true) (n : Nat) : passN nF (0, 0) ((nestL x (n + 1)).take ((nestL x (n + 1)).length - 2) ++ [120]) = (nestL x (n + 1)).length - 1 := by
  have ht : (nestL x (n + 1)).take ((nestL x (n + 1)).length - 2) = 40 :: 42 :: (x ++ (nestL x n ++ x)) := by
    have : nestL x (n + 1) = (40 :: 42 :: (x ++ (nestL x n ++ x))) ++ [42, 41] := by simp [nestL]
    rw [this, List.length_append]
    simp only [List.length_cons, List.length_nil]
    rw [List.take_append_of_le_length (by simp)]
    rw [List.take_of_length_le (by simp)]
  obtain ⟨h1, k1, e1⟩ := pass_letters x hx 1 0 dull0 (nestL x n ++ (x ++ [120]))
  obtain ⟨h2, k2, e2⟩ := pass_nest x hx n 1 (by omega) h1 k1 (x ++ [120])
  obtain ⟨h3, k3, e3⟩ := pass_letters x hx 1 h2 k2 [120]
  have e4 : passN nF (1, h3) [120] = 1 := by
    simp only [passN, nF_dull _ h3 120 k3, cond_true]
  have e0 : passN nF (0, 0) (40 :: 42 :: (x ++ (nestL x n ++ x)) ++ [120]) = 2 + passN nF (1, 0) (x ++ (nestL x n ++ (x ++ [120]))) := by
    simp only [List.cons_append, List.append_assoc, passN, nF_dull _ 0 40 dull0, nF_star, cond_true]
    simp only [show (0 : Int) + 1 = 1 from rfl]
    omega
  rw [ht, e0, e1, e2, e3, e4]
  simp only [nestL, List.length_cons, List.length_append, List.length_nil]
  omega
theorem nest_head (x : List UInt8) (n : Nat) (r : List UInt8) : tokN (nestL x (n + 1) ++ r) = noteN (nestL x (n + 1) ++ r) := rfl
end Go.Proofs.YtnkgmddaodbpcaaDoor
