/-
  A slice of pairs, handed in.
-/
import Derived.Test.YtckddpnjammfmaaPlc
import Derived.Deep.SlicePairs
import Derived.ProofKit
import Derived.OpenShut
namespace Go.Proofs.Ytckddpnjammfmaa
open Go.RowKit Go.ChangeShapes Go.WideShapes
set_option maxRecDepth 20000
set_option linter.unusedVariables false
set_option linter.unusedSimpArgs false

theorem w64_of {x : Int} (h : (Lit.int .i64 x).wf = true) : W64 x := bounds_i64 h
theorem pairs_arg {H : Type} {enc : TypeId × Value → H} {W : World} {base : Nat} {v : Value} {d : DataW H} {p : List MemPlace} (hv : Value.okWide Try.prog W .any base 25 v)
    (h : DataW.Trod enc Try.prog W 0 (fun _ => true) true 25 v d p) : ∃ q n c l, v = .slice q n c ∧ n ≤ maxLen ∧ (PS W q n c l ∧ ∀ p ∈ l, W64 p.1 ∧ W64 p.2) := by
  obtain ⟨q, n, c, rfl⟩ := okWide_slice Try.underlying25 hv
  obtain ⟨fuel, hf⟩ := h
  rcases Go.Deep.open_slice_pairs Try.underlying25 Try.underlying48 (by kernel_rfl) rfl rfl (by kernel_rfl) (by kernel_rfl) hf with ⟨hcs, _⟩ | ⟨a, len, cap, m, nn, V0, V1, D0, D1, P0, P1, hcs, _, hl, hm, hmm, _, hcell⟩
  · simp [Value.cells] at hcs
    obtain ⟨rfl, rfl, rfl⟩ := hcs
    exact ⟨none, 0, 0, [], rfl, by omega, ⟨rfl, .inl rfl⟩, fun p hp => by simp at hp⟩
  · simp [Value.cells] at hcs
    obtain ⟨rfl, rfl, rfl⟩ := hcs
    rw [if_pos rfl] at hmm
    subst hmm
    have hv : ∀ i, i < m → ∃ x y : Int, V0 i = .int .i64 x ∧ V1 i = .int .i64 y ∧ W64 x ∧ W64 y := fun i hi => by
      obtain ⟨_, _, t0, t1⟩ := hcell i hi
      obtain ⟨x0, e0, _, w0⟩ := DataW.trod_int Try.underlying3 t0
      obtain ⟨x1, e1, _, w1⟩ := DataW.trod_int Try.underlying3 t1
      simp only [List.cons.injEq, and_true] at e0 e1
      exact ⟨x0, x1, e0, e1, w64_of w0, w64_of w1⟩
    have hv2 : ∀ i, i < m → V0 i = .int .i64 (intOf (V0 i)) ∧ V1 i = .int .i64 (intOf (V1 i)) ∧ W64 (intOf (V0 i)) ∧ W64 (intOf (V1 i)) := fun i hi => by
      obtain ⟨x, y, h0, h1, h2, h3⟩ := hv i hi
      rw [h0, h1]; exact ⟨rfl, rfl, h2, h3⟩
    refine ⟨some a, n, m, (List.range n).map fun i => (intOf (V0 i), intOf (V1 i)), rfl, by omega, ⟨by simp, ?_⟩, fun p hp => ?_⟩
    · by_cases hn : n = 0
      · exact .inl hn
      · right
        obtain ⟨b, off, spot⟩ := a
        have h0 := (hcell 0 (by omega)).1
        have hspot : spot = none := by simpa [Addr.add] using World.cell?_spot h0
        subst hspot
        refine ⟨b, off, rfl, hl, World.block_lt_of_cell? W _ h0, fun i p hi => ?_⟩
        have hin : i < n := by have := (List.getElem?_eq_some_iff.1 hi).1; simpa using this
        rw [List.getElem?_map, List.getElem?_range hin] at hi
        simp only [Option.map_some, Option.some.injEq] at hi
        subst hi
        obtain ⟨s0, s1, _, _⟩ := hcell i (by omega)
        obtain ⟨e0, e1, _, _⟩ := hv2 i (by omega)
        rw [addr_add'] at s0 s1
        rw [← Nat.add_assoc] at s1
        simp only
        rw [← e0, ← e1]
        exact ⟨s0, s1⟩
    · obtain ⟨i, hi, rfl⟩ := List.mem_map.1 hp
      obtain ⟨_, _, h2, h3⟩ := hv2 i (by have := List.mem_range.1 hi; omega)
      exact ⟨h2, h3⟩
end Go.Proofs.Ytckddpnjammfmaa
