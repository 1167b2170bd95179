/-
  Right as the document goes through it is Right as the program does: plain.
-/
import Derived.Test.YtcijjeflojaocaaRight
namespace Go.Proofs.Ytcijjeflojaocaa
set_option linter.unusedVariables false
set_option linter.unusedSimpArgs false

mutual
/-- Is a branch right, as the document goes through it? -/
def Br.right2 : Br → Bool
  | .mk h ks => (decide (0 ≤ h.f) && decide (h.f ≤ h.t)) && (h.ns.all (fun x => decide (h.f ≤ x) && decide (x < h.t)) && rights2 h.f h.t none ks)
def rights2 (f t : Int) (prev : Option Int) : List Br → Bool
  | [] => true
  | b :: r => b.right2 && (decide (f ≤ b.h.f) && (decide (b.h.t ≤ t) && ((match prev with | none => true | some p => decide (p ≤ b.h.f)) && rights2 f t (some b.h.t) r)))
end
theorem right2_le (b : Br) (h : b.right2 = true) : b.h.f ≤ b.h.t := by
  cases b
  simp only [Br.right2, Bool.and_eq_true, decide_eq_true_eq] at h
  exact h.1.2
theorem rights_eq {ks : List Br} (ih : ∀ b ∈ ks, b.right = b.right2) (f t : Int) : ∀ (free : Int) (prev : Option Int), (∀ p, prev = some p → p = free) → (prev = none → free = f) → f ≤ free → rightsFrom free t ks = (decide (free ≤ t) && rights2 f t prev ks) := by
  induction ks with
  | nil => intro free prev _ _ _; simp [rightsFrom, rights2]
  | cons x r ih' =>
    intro free prev h1 h2 h3
    simp only [rightsFrom, rights2]
    rw [ih x (by simp)]
    cases hx : x.right2
    · simp
    · have hle := right2_le x hx
      by_cases h4 : free ≤ x.h.f
      · rw [ih' (fun b hb => ih b (by simp [hb])) x.h.t (some x.h.t) (fun p hp => (Option.some.inj hp).symm) (fun h => by cases h) (by omega)]
        have h5 : f ≤ x.h.f := by omega
        have key : ∀ (c R : Bool), c = true → (decide (free ≤ x.h.f) && (true && (decide (x.h.t ≤ t) && R))) = (decide (free ≤ t) && (true && (decide (f ≤ x.h.f) && (decide (x.h.t ≤ t) && (c && R))))) := by
          intro c R hc
          subst hc
          simp only [h4, h5, decide_true, Bool.true_and]
          by_cases h7 : x.h.t ≤ t
          · have h8 : free ≤ t := by omega
            simp [h7, h8]
          · simp [h7]
        cases prev with
        | none => exact key true _ rfl
        | some p => exact key _ _ (decide_eq_true (by rw [h1 p rfl]; exact h4))
      · have h7 : decide (free ≤ x.h.f) = false := decide_eq_false h4
        rw [h7, Bool.false_and]
        symm
        cases prev with
        | none =>
          have := h2 rfl
          have h8 : decide (f ≤ x.h.f) = false := decide_eq_false (by omega)
          simp [h8]
        | some p =>
          have := h1 p rfl
          have h8 : decide (p ≤ x.h.f) = false := decide_eq_false (by omega)
          simp [h8]
theorem right_eq (b : Br) : b.right = b.right2 := by
  induction b using Br.ind with
  | hP h ks ih =>
    simp only [Br.right, Br.right2]
    rw [rights_eq ih h.f h.t h.f none (fun p hp => by cases hp) (fun _ => rfl) (Int.le_refl _)]
    cases decide (0 ≤ h.f) <;> cases decide (h.f ≤ h.t) <;> simp
end Go.Proofs.Ytcijjeflojaocaa
