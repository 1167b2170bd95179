/-
  An argument that is a slice of texts, read as a list.
-/
import Derived.Test.YthknejgdchpaaaaDoorBase
import Derived.Deep.Strs
import Derived.ChangeSame
import Derived.ProofKit
import Derived.OpenShut
import Derived.ChangeOld
import Derived.Carry
namespace Go.Proofs.YthknejgdchpaaaaDoor
open Go.ChangeShapes Go.WideShapes Go.ChangeAt Go.RowKit Go.Deep
set_option linter.unusedVariables false

theorem byte_of {x : Int} (h : (Lit.int .u8 x).wf = true) : ∃ c : UInt8, x = (c.toNat : Int) := by
  have hx : 0 ≤ x ∧ x < 256 := by
    simp [Lit.wf, IntKind.min, IntKind.max, IntKind.bits, IntKind.signed] at h; omega
  refine ⟨UInt8.ofNat x.toNat, ?_⟩
  simp
  omega
theorem texts_arg {H : Type} {enc : TypeId × Value → H} {W : World} {base : Nat} {v : Value} {d : DataW H} {p : List MemPlace} (hv : Value.okWide Tryd.prog W .any base 25 v)
    (h : DataW.Trod enc Tryd.prog W 0 (fun _ => true) true 25 v d p) : ∃ q n cap l, v = .slice q n cap ∧ n ≤ 9223372036854775807 ∧ In W q n cap l ∧ ∀ s ∈ l, s.size ≤ 9223372036854775807 := by
  obtain ⟨p', n, c, rfl⟩ := okWide_slice Tryd.underlying25 hv
  obtain ⟨fuel, hf⟩ := h
  rcases open_strs Tryd.underlying25 Tryd.underlying9 (by kernel_rfl) hf with ⟨hcs, _⟩ | ⟨a, len, cap, m, Sx, hcs, _, hl, hm, hmm, _, hel⟩
  · simp [Value.cells] at hcs
    obtain ⟨rfl, rfl, rfl⟩ := hcs
    exact ⟨none, 0, 0, [], rfl, by omega, ⟨rfl, .inl rfl⟩, fun x hx => by simp at hx⟩
  · simp [Value.cells] at hcs
    obtain ⟨rfl, rfl, rfl⟩ := hcs
    rw [if_pos rfl] at hmm
    subst hmm
    have hn63 : n ≤ 9223372036854775807 := by unfold maxLen at hm; omega
    cases n with
    | zero => exact ⟨some a, 0, m, [], rfl, by omega, ⟨rfl, .inl rfl⟩, fun x hx => by simp at hx⟩
    | succ j =>
      have h00 := (hel 0 (by omega)).1
      obtain ⟨b, off, spot⟩ := a
      have hspot : spot = none := by simpa [Addr.add] using World.cell?_spot h00
      subst hspot
      have hadd : ∀ k, (⟨b, off, none⟩ : Addr).add k = ⟨b, off + k, none⟩ := fun k => by
        unfold Addr.add; split <;> simp_all
      refine ⟨some ⟨b, off, none⟩, j + 1, m, (List.range (j + 1)).map Sx, rfl, hn63, ⟨by simp, .inr ⟨b, off, rfl, hl, World.block_lt_of_cell? W _ h00, ?_⟩⟩, ?_⟩
      · intro i hi
        have hi2 : i < m := by simp at hi; omega
        have c0 := (hel i hi2).1
        simp only [List.getElem_map, List.getElem_range]
        rw [hadd] at c0
        exact c0
      · intro x hx
        obtain ⟨i, hi, rfl⟩ := List.mem_map.1 hx
        have := (hel i (by have := List.mem_range.1 hi; omega)).2
        unfold maxLen at this
        exact this
end Go.Proofs.YthknejgdchpaaaaDoor
