/-
  An argument that is a slice of edits reads as a list of edits.
-/
import Derived.Test.YtficgilapbmmpaaBase
import Derived.Deep.Slices
import Derived.Deep.SlicePairs
import Derived.ChangeSame
import Derived.ProofKit
import Derived.OpenShut
import Derived.ChangeOld
import Derived.Carry
import Derived.Lib.SmallJoins
namespace Go.Proofs.Ytficgilapbmmpaa
open Go.ChangeShapes Go.WideShapes Go.ChangeAt Go.RowKit Go.Deep
set_option linter.unusedVariables false

theorem edit_cells {H : Type} {enc : TypeId × Value → H} {W : World} {n : Nat} {a : Addr} {cs : List Value} {y : DataW H × List MemPlace}
    (hc : W.cells? 0 a 3 = some cs) (h : DataW.trod enc Try.prog W 0 (fun _ => true) true n 55 cs = some y) :
    ∃ x : Ed, W.cell? a = some (.int .i64 x.a) ∧ W.cell? (a.add 1) = some (.int .i64 x.e) ∧ W.cell? (a.add 2) = some (.string x.t) := by
  obtain ⟨_, hlen, hcell⟩ := World.cells?_some hc
  obtain ⟨xs, k, _, _, _, hxl, hf⟩ := DataW.trod_struct Try.underlying55 h
  match cs, hlen, xs, hxl with
  | [v0, v1, v2], _, [y0, y1, y2], _ =>
    have g0 := hf 0 _ rfl
    have g1 := hf 1 _ rfl
    have g2 := hf 2 _ rfl
    have z3 : Try.prog.cellsOf 3 = 1 := by kernel_rfl
    have z9 : Try.prog.cellsOf 9 = 1 := by kernel_rfl
    simp [z3, z9] at g0 g1 g2
    obtain ⟨i0, e0, _, _⟩ := DataW.trod_int Try.underlying3 g0
    obtain ⟨i1, e1, _, _⟩ := DataW.trod_int Try.underlying3 g1
    obtain ⟨i2, e2, _, _⟩ := DataW.trod_string Try.underlying9 g2
    simp only [List.cons.injEq, and_true] at e0 e1 e2
    subst e0 e1 e2
    have c0 := hcell 0 (by omega)
    have c1 := hcell 1 (by omega)
    have c2 := hcell 2 (by omega)
    refine ⟨⟨i0, i1, i2⟩, ?_, c1, c2⟩
    have ha : a.add 0 = a := by unfold Addr.add; simp
    rw [ha] at c0
    simpa using c0

theorem edits_arg {H : Type} {enc : TypeId × Value → H} {W : World} {base : Nat} {v : Value} {d : DataW H} {p : List MemPlace} (hv : Value.okWide Try.prog W .any base 22 v)
    (h : DataW.Trod enc Try.prog W 0 (fun _ => true) true 22 v d p) : ∃ q n cap l, v = .slice q n cap ∧ n ≤ 9223372036854775807 ∧ EditsIn W q n cap l := by
  obtain ⟨p', n, c, rfl⟩ := okWide_slice Try.underlying22 hv
  obtain ⟨fuel, hf⟩ := h
  have hce : Try.prog.cellsOf 55 = 3 := by kernel_rfl
  rcases open_slice Try.underlying22 hf with ⟨hcs, _⟩ | ⟨a, len, cap, m, nn, D, Pl, hcs, _, hl, hm, hmm, _, hel⟩
  · simp [Value.cells] at hcs
    obtain ⟨rfl, rfl, rfl⟩ := hcs
    exact ⟨none, 0, 0, [], rfl, by omega, rfl, .inl rfl⟩
  · simp [Value.cells] at hcs
    obtain ⟨rfl, rfl, rfl⟩ := hcs
    rw [if_pos rfl] at hmm
    subst hmm
    have hn63 : n ≤ 9223372036854775807 := by unfold maxLen at hm; omega
    cases n with
    | zero => exact ⟨some a, 0, m, [], rfl, by omega, rfl, .inl rfl⟩
    | succ k =>
      have each : ∀ i, i < m → ∃ x : Ed, W.cell? (a.add (i * 3)) = some (.int .i64 x.a) ∧ W.cell? ((a.add (i * 3)).add 1) = some (.int .i64 x.e) ∧ W.cell? ((a.add (i * 3)).add 2) = some (.string x.t) := fun i hi => by
        obtain ⟨cs', h1, h2⟩ := hel i hi
        rw [hce] at h1
        exact edit_cells h1 h2
      have h00 := each 0 (by omega)
      obtain ⟨b, off, spot⟩ := a
      obtain ⟨x0, h0, _⟩ := h00
      have hspot : spot = none := by simpa [Addr.add] using World.cell?_spot h0
      subst hspot
      have hadd : ∀ k, (⟨b, off, none⟩ : Addr).add k = ⟨b, off + k, none⟩ := fun k => by
        unfold Addr.add; split <;> simp_all
      have hadd2 : ∀ o k, (⟨b, o, none⟩ : Addr).add k = ⟨b, o + k, none⟩ := fun o k => by
        unfold Addr.add; split <;> simp_all
      obtain ⟨q, hq⟩ := choose_lt each
      refine ⟨some ⟨b, off, none⟩, k + 1, m, (List.range (k + 1)).map q, rfl, hn63, by simp, .inr ⟨b, off, rfl, hl, World.block_lt_of_cell? W _ h0, ?_⟩⟩
      intro i hi
      have hi2 : i < m := by simp at hi; omega
      obtain ⟨c0, c1, c2⟩ := hq i hi2
      simp only [List.getElem_map, List.getElem_range]
      rw [hadd] at c0 c1 c2
      rw [hadd2] at c1 c2
      exact ⟨c0, c1, c2⟩
end Go.Proofs.Ytficgilapbmmpaa
