/-
  Is a graph gone through (few); plain facts on families.
-/
import Derived.Test.YtggoajpemffbiaaAlv
namespace Go.Proofs.Ytggoajpemffbiaa
open Go.RowKit
set_option maxRecDepth 20000
set_option linter.unusedVariables false
set_option linter.unusedSimpArgs false

def fewB (g : Gr) : Bool := decide (g.ne ≤ 60) && decide (g.nv ≤ 60) && decide (g.nl ≤ 40)
theorem few_yes {g : Gr} (h : fewB g = true) : g.ne ≤ 60 ∧ g.nv ≤ 60 ∧ g.nl ≤ 40 := by
  unfold fewB at h
  simp only [Bool.and_eq_true, decide_eq_true_eq] at h
  omega
set_option maxHeartbeats 4000000 in
theorem few_any (g : Gr) (w : World) : Calls Try.prog 7 #[g.v] w fun e w' => e = .returned (.bool (fewB g)) ∧ Below w.heap.size w w' := by
  obtain ⟨qe, ne, ce, ql, nl, cl, qv, nv, cv⟩ := g
  simp only [Gr.v]
  have HB := Lib.hid ((Below.refl w.heap.size w).alloc (Nat.le_refl _) (.cells #[.slice qe ne ce, .slice ql nl cl, .slice qv nv cv] 25))
  by_cases h1 : ne ≤ 60
  · by_cases h2 : nv ≤ 60
    · by_cases h3 : nl ≤ 40
      · have HF : Hid (fewB ⟨qe, ne, ce, ql, nl, cl, qv, nv, cv⟩ = true) := Lib.hid (by unfold fewB; simp [h1, h2, h3])
        go_enter Try.func7, Try.ntmps7
        go_wp2_with fail
        go_ret
        exact ⟨by rw [HF.out]; show Ending.returned (Value.bool (decide ((nl : Int) ≤ 40))) = _; rw [show decide ((nl : Int) ≤ 40) = true by simp; omega], HB.out⟩
      · have HF : Hid (fewB ⟨qe, ne, ce, ql, nl, cl, qv, nv, cv⟩ = false) := Lib.hid (by unfold fewB; simp [h3])
        have h4 : 40 < nl := by omega
        go_enter Try.func7, Try.ntmps7
        go_wp2_with fail
        go_ret
        exact ⟨by rw [HF.out]; show Ending.returned (Value.bool (decide ((nl : Int) ≤ 40))) = _; rw [show decide ((nl : Int) ≤ 40) = false by simp; omega], HB.out⟩
    · have HF : Hid (fewB ⟨qe, ne, ce, ql, nl, cl, qv, nv, cv⟩ = false) := Lib.hid (by unfold fewB; simp [h2])
      have h4 : 60 < nv := by omega
      go_enter Try.func7, Try.ntmps7
      go_wp2_with fail
      go_ret
      exact ⟨by rw [HF.out]; rfl, HB.out⟩
  · have HF : Hid (fewB ⟨qe, ne, ce, ql, nl, cl, qv, nv, cv⟩ = false) := Lib.hid (by unfold fewB; simp [h1])
    have h4 : 60 < ne := by omega
    go_enter Try.func7, Try.ntmps7
    go_wp2_with fail
    go_ret
    exact ⟨by rw [HF.out]; rfl, HB.out⟩
theorem famO_at {E : List Int} {L : List P2} {A : Nat} {a : Int} (h : E[A]? = some a) : famO E L (A : Int) = famN E L a := by
  have hl := (List.getElem?_eq_some_iff.1 h).1
  unfold famO
  rw [if_pos (by omega)]
  simp [h]
theorem famN_in {E : List Int} {L : List P2} {a b : Int} {B : Nat} (h : E[B]? = some b) : inI (famN E L a) (B : Int) = true ↔ Cn L a b := by
  have hl := (List.getElem?_eq_some_iff.1 h).1
  rw [inI_iff]
  unfold famN
  rw [mem_selN]
  constructor
  · rintro ⟨i, hi, hp, e⟩
    obtain rfl : i = B := by omega
    rw [h] at hp
    exact (meets_iff L a b).1 hp
  · intro hc
    exact ⟨B, hl, by rw [h]; exact (meets_iff L a b).2 hc, rfl⟩
theorem famN_sub {E : List Int} {L : List P2} {a x : Int} (h : x ∈ famN E L a) : ∃ (i : Nat) (b : Int), x = (i : Int) ∧ E[i]? = some b ∧ Cn L a b := by
  unfold famN at h
  obtain ⟨i, hi, hp, e⟩ := mem_selN.1 h
  obtain ⟨b, hb⟩ : ∃ b, E[i]? = some b := ⟨_, List.getElem?_eq_getElem hi⟩
  rw [hb] at hp
  exact ⟨i, b, e, hb, (meets_iff L a b).1 hp⟩
theorem famN_same {E : List Int} {L : List P2} {a b : Int} (h : Cn L a b) : famN E L a = famN E L b := by
  unfold famN
  refine selN_congr fun i hi => ?_
  obtain ⟨x, hx⟩ : ∃ x, E[i]? = some x := ⟨_, List.getElem?_eq_getElem hi⟩
  simp only [hx]
  have h1 := meets_iff L a x
  have h2 := meets_iff L b x
  have h3 : Cn L a x ↔ Cn L b x := ⟨fun e => h.symm.trans e, fun e => h.trans e⟩
  cases p : inI (meets L a (L.length + 1)) x <;> cases q : inI (meets L b (L.length + 1)) x <;> simp [p, q] at h1 h2 <;> simp_all
theorem famN_len (E : List Int) (L : List P2) (a : Int) : (famN E L a).length ≤ E.length := selN_len _ _
theorem bool_iff {a b : Bool} (h : a = true ↔ b = true) : a = b := by cases a <;> cases b <;> simp_all
end Go.Proofs.Ytggoajpemffbiaa
