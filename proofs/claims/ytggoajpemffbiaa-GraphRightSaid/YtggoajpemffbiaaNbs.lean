/-
  To which numbers pairs lead: plain facts; a round of reached's first loop.
-/
import Derived.Test.YtggoajpemffbiaaGrp
namespace Go.Proofs.Ytggoajpemffbiaa
open Go.RowKit
set_option maxRecDepth 20000
set_option linter.unusedVariables false
set_option linter.unusedSimpArgs false

/-- The numbers to which pairs lead from x at once. -/
def nbs (l : List P2) (x : Int) : List Int := l.flatMap fun p => (bif decide (p.1 = x) then [p.2] else []) ++ (bif decide (p.2 = x) then [p.1] else [])
theorem nbs_nil : nbs [] = fun _ => [] := rfl
theorem nbs_len (l : List P2) (x : Int) : (nbs l x).length ≤ 2 * l.length := by
  induction l with
  | nil => simp [nbs]
  | cons p r ih =>
    simp only [nbs, List.flatMap_cons, List.length_append, List.length_cons] at ih ⊢
    have h1 : (bif decide (p.1 = x) then [p.2] else []).length ≤ 1 := by cases decide (p.1 = x) <;> simp
    have h2 : (bif decide (p.2 = x) then [p.1] else []).length ≤ 1 := by cases decide (p.2 = x) <;> simp
    omega
theorem mem_nbs {l : List P2} {x y : Int} : y ∈ nbs l x ↔ (x, y) ∈ l ∨ (y, x) ∈ l := by
  simp only [nbs, List.mem_flatMap, List.mem_append]
  constructor
  · rintro ⟨⟨a, b⟩, hp, h | h⟩
    · by_cases e : a = x
      · simp [e] at h; subst h; subst e; exact .inl hp
      · simp [e] at h
    · by_cases e : b = x
      · simp [e] at h; subst h; subst e; exact .inr hp
      · simp [e] at h
  · rintro (h | h)
    · exact ⟨_, h, .inl (by simp)⟩
    · exact ⟨_, h, .inr (by simp)⟩
theorem nbs_snoc (l : List P2) (p : P2) (x : Int) : nbs (l ++ [p]) x = (if p.2 = x then (if p.1 = p.2 then nbs l p.1 ++ [p.2] else nbs l p.2) ++ [p.1] else (if p.1 = x then nbs l p.1 ++ [p.2] else nbs l x)) := by
  have e : nbs (l ++ [p]) x = nbs l x ++ ((bif decide (p.1 = x) then [p.2] else []) ++ (bif decide (p.2 = x) then [p.1] else [])) := by simp [nbs]
  rw [e]
  by_cases h1 : p.1 = x <;> by_cases h2 : p.2 = x
  · subst h1; simp [h2]
  · subst h1; simp [h2]
  · subst h2; simp [h1]
  · simp [h1, h2]
theorem Grp.congr {w : World} {base nb : Nat} {L : IV} {f g : Int → List Int} (h : Grp w base nb L f) (e : ∀ x, f x = g x) : Grp w base nb L g := by
  have : f = g := funext e
  rwa [← this]
end Go.Proofs.Ytggoajpemffbiaa
