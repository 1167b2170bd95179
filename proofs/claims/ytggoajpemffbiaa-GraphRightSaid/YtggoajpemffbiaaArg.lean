/-
  Arguments: rows of numbers, of pairs, of occurrences, and graphs.
-/
import Derived.Test.YtggoajpemffbiaaRgp
import Derived.Deep.Slices
import Derived.Deep.SlicePairs
import Derived.ChangeSame
import Derived.ProofKit
import Derived.OpenShut
import Derived.ChangeOld
import Derived.Carry
import Derived.Lib.SmallJoins
namespace Go.Proofs.Ytggoajpemffbiaa
open Go.ChangeShapes Go.WideShapes Go.ChangeAt Go.RowKit Go.Deep
set_option maxRecDepth 20000
set_option linter.unusedVariables false
set_option linter.unusedSimpArgs false

instance : Inhabited Oc := ⟨⟨0, 0, 0, 0, false⟩⟩
theorem w64_of {x : Int} (h : (Lit.int .i64 x).wf = true) : W64 x := bounds_i64 h
theorem slice_of {T E : TypeId} {H : Type} {enc : TypeId × Value → H} {W : World} {fuel : Nat} {v : Value} {y : DataW H × List MemPlace} (hT : Try.prog.underlying T = some (.slice E)) (hf : DataW.trod enc Try.prog W 0 (fun _ => true) true fuel T [v] = some y) :
    (v = .slice none 0 0) ∨ ∃ (a : Addr) (len cap : Nat), v = .slice (some a) len cap ∧ len ≤ cap ∧ cap ≤ maxLen ∧ ∀ i, i < cap → ∃ cs' n z, W.cells? 0 (a.add (i * Try.prog.cellsOf E)) (Try.prog.cellsOf E) = some cs' ∧ DataW.trod enc Try.prog W 0 (fun _ => true) true n E cs' = some z := by
  rcases open_slice hT hf with ⟨hcs, _⟩ | ⟨a, len, cap, m, nn, D, Pl, hcs, _, hl, hm, hmm, _, hel⟩
  · left; simpa using hcs
  · right
    rw [if_pos rfl] at hmm
    subst hmm
    refine ⟨a, len, m, by simpa using hcs, hl, hm, fun i hi => ?_⟩
    obtain ⟨cs', h1, h2⟩ := hel i hi
    exact ⟨cs', nn, _, h1, h2⟩
theorem add_at (b off k : Nat) : (⟨b, off, none⟩ : Addr).add k = ⟨b, off + k, none⟩ := addr_add' b off k
theorem ints_of {H : Type} {enc : TypeId × Value → H} {W : World} {fuel : Nat} {v : Value} {y : DataW H × List MemPlace} (hf : DataW.trod enc Try.prog W 0 (fun _ => true) true fuel 22 [v] = some y) :
    ∃ q n c l, v = .slice q n c ∧ n ≤ maxLen ∧ (IS W q n c l ∧ ∀ x ∈ l, W64 x) := by
  have hce : Try.prog.cellsOf 3 = 1 := by kernel_rfl
  rcases slice_of Try.underlying22 hf with rfl | ⟨a, n, m, rfl, hl, hm, hel⟩
  · exact ⟨none, 0, 0, [], rfl, by omega, ⟨rfl, .inl rfl⟩, fun x hx => by simp at hx⟩
  · by_cases hn : n = 0
    · subst hn
      exact ⟨some a, 0, m, [], rfl, by omega, ⟨rfl, .inl rfl⟩, fun x hx => by simp at hx⟩
    · have each : ∀ i, i < m → ∃ x : Int, W.cell? (a.add i) = some (.int .i64 x) ∧ W64 x := fun i hi => by
        obtain ⟨cs', k, z, h1, h2⟩ := hel i hi
        rw [hce, Nat.mul_one] at h1
        obtain ⟨_, hlen, hcell⟩ := World.cells?_some h1
        obtain ⟨x, hx, _, hw⟩ := DataW.trod_int Try.underlying3 h2
        have c0 := hcell 0 (by omega)
        rw [hx] at c0
        have ha : (a.add i).add 0 = a.add i := by unfold Addr.add; simp
        rw [ha] at c0
        exact ⟨x, by simpa using c0, w64_of hw⟩
      obtain ⟨b, off, spot⟩ := a
      obtain ⟨x0, h0, _⟩ := each 0 (by omega)
      have hspot : spot = none := by simpa [Addr.add] using World.cell?_spot h0
      subst hspot
      obtain ⟨q, hq⟩ := choose_lt each
      refine ⟨some ⟨b, off, none⟩, n, m, (List.range n).map q, rfl, by omega, ⟨by simp, .inr ⟨b, off, rfl, hl, World.block_lt_of_cell? W _ h0, fun i x hi => ?_⟩⟩, fun x hx => ?_⟩
      · have hin : i < n := by have := (List.getElem?_eq_some_iff.1 hi).1; simpa using this
        rw [List.getElem?_map, List.getElem?_range hin] at hi
        simp only [Option.map_some, Option.some.injEq] at hi
        subst hi
        have := (hq i (by omega)).1
        rwa [add_at] at this
      · obtain ⟨i, hi, rfl⟩ := List.mem_map.1 hx
        exact (hq i (by have := List.mem_range.1 hi; omega)).2
theorem pair_cells {H : Type} {enc : TypeId × Value → H} {W : World} {n : Nat} {a : Addr} {cs : List Value} {y : DataW H × List MemPlace}
    (hc : W.cells? 0 a 2 = some cs) (h : DataW.trod enc Try.prog W 0 (fun _ => true) true n 40 cs = some y) :
    ∃ p : P2, W.cell? a = some (.int .i64 p.1) ∧ W.cell? (a.add 1) = some (.int .i64 p.2) ∧ W64 p.1 ∧ W64 p.2 := by
  obtain ⟨_, hlen, hcell⟩ := World.cells?_some hc
  obtain ⟨xs, k, _, _, _, hxl, hf⟩ := DataW.trod_struct Try.underlying40 h
  match cs, hlen, xs, hxl with
  | [v0, v1], _, [y0, y1], _ =>
    have g0 := hf 0 _ rfl
    have g1 := hf 1 _ rfl
    have z3 : Try.prog.cellsOf 3 = 1 := by kernel_rfl
    simp [z3] at g0 g1
    obtain ⟨i0, e0, _, w0⟩ := DataW.trod_int Try.underlying3 g0
    obtain ⟨i1, e1, _, w1⟩ := DataW.trod_int Try.underlying3 g1
    simp only [List.cons.injEq, and_true] at e0 e1
    subst e0 e1
    have c0 := hcell 0 (by omega)
    have c1 := hcell 1 (by omega)
    refine ⟨(i0, i1), ?_, c1, w64_of w0, w64_of w1⟩
    have ha : a.add 0 = a := by unfold Addr.add; simp
    rw [ha] at c0
    simpa using c0
theorem pairs_of {H : Type} {enc : TypeId × Value → H} {W : World} {fuel : Nat} {v : Value} {y : DataW H × List MemPlace} (hf : DataW.trod enc Try.prog W 0 (fun _ => true) true fuel 23 [v] = some y) :
    ∃ q n c l, v = .slice q n c ∧ n ≤ maxLen ∧ (PS W q n c l ∧ ∀ p ∈ l, W64 p.1 ∧ W64 p.2) := by
  have hce : Try.prog.cellsOf 40 = 2 := by kernel_rfl
  rcases slice_of Try.underlying23 hf with rfl | ⟨a, n, m, rfl, hl, hm, hel⟩
  · exact ⟨none, 0, 0, [], rfl, by omega, ⟨rfl, .inl rfl⟩, fun x hx => by simp at hx⟩
  · by_cases hn : n = 0
    · subst hn
      exact ⟨some a, 0, m, [], rfl, by omega, ⟨rfl, .inl rfl⟩, fun x hx => by simp at hx⟩
    · have each : ∀ i, i < m → ∃ p : P2, W.cell? (a.add (i * 2)) = some (.int .i64 p.1) ∧ W.cell? ((a.add (i * 2)).add 1) = some (.int .i64 p.2) ∧ W64 p.1 ∧ W64 p.2 := fun i hi => by
        obtain ⟨cs', k, z, h1, h2⟩ := hel i hi
        rw [hce] at h1
        exact pair_cells h1 h2
      obtain ⟨b, off, spot⟩ := a
      obtain ⟨x0, h0, _⟩ := each 0 (by omega)
      have hspot : spot = none := by simpa [Addr.add] using World.cell?_spot h0
      subst hspot
      obtain ⟨q, hq⟩ := choose_lt each
      refine ⟨some ⟨b, off, none⟩, n, m, (List.range n).map q, rfl, by omega, ⟨by simp, .inr ⟨b, off, rfl, hl, World.block_lt_of_cell? W _ h0, fun i x hi => ?_⟩⟩, fun x hx => ?_⟩
      · have hin : i < n := by have := (List.getElem?_eq_some_iff.1 hi).1; simpa using this
        rw [List.getElem?_map, List.getElem?_range hin] at hi
        simp only [Option.map_some, Option.some.injEq] at hi
        subst hi
        obtain ⟨c0, c1, _, _⟩ := hq i (by omega)
        rw [add_at] at c0 c1
        rw [add_at] at c1
        exact ⟨c0, c1⟩
      · obtain ⟨i, hi, rfl⟩ := List.mem_map.1 hx
        exact (hq i (by have := List.mem_range.1 hi; omega)).2.2
theorem occ_cells {H : Type} {enc : TypeId × Value → H} {W : World} {n : Nat} {a : Addr} {cs : List Value} {y : DataW H × List MemPlace}
    (hc : W.cells? 0 a 5 = some cs) (h : DataW.trod enc Try.prog W 0 (fun _ => true) true n 44 cs = some y) :
    ∃ o : Oc, W.cell? a = some (.int .i64 o.f) ∧ W.cell? (a.add 1) = some (.int .i64 o.a) ∧ W.cell? (a.add 2) = some (.int .i64 o.e) ∧ W.cell? (a.add 3) = some (.int .i64 o.s) ∧ W.cell? (a.add 4) = some (.bool o.d) := by
  obtain ⟨_, hlen, hcell⟩ := World.cells?_some hc
  obtain ⟨xs, k, _, _, _, hxl, hf⟩ := DataW.trod_struct Try.underlying44 h
  match cs, hlen, xs, hxl with
  | [v0, v1, v2, v3, v4], _, [y0, y1, y2, y3, y4], _ =>
    have g0 := hf 0 _ rfl
    have g1 := hf 1 _ rfl
    have g2 := hf 2 _ rfl
    have g3 := hf 3 _ rfl
    have g4 := hf 4 _ rfl
    have z3 : Try.prog.cellsOf 3 = 1 := by kernel_rfl
    have z4 : Try.prog.cellsOf 4 = 1 := by kernel_rfl
    simp [z3, z4] at g0 g1 g2 g3 g4
    obtain ⟨i0, e0, _, _⟩ := DataW.trod_int Try.underlying3 g0
    obtain ⟨i1, e1, _, _⟩ := DataW.trod_int Try.underlying3 g1
    obtain ⟨i2, e2, _, _⟩ := DataW.trod_int Try.underlying3 g2
    obtain ⟨i3, e3, _, _⟩ := DataW.trod_int Try.underlying3 g3
    obtain ⟨i4, e4, _⟩ := DataW.trod_bool Try.underlying4 g4
    simp only [List.cons.injEq, and_true] at e0 e1 e2 e3 e4
    subst e0 e1 e2 e3 e4
    have c0 := hcell 0 (by omega)
    refine ⟨⟨i0, i1, i2, i3, i4⟩, ?_, hcell 1 (by omega), hcell 2 (by omega), hcell 3 (by omega), hcell 4 (by omega)⟩
    have ha : a.add 0 = a := by unfold Addr.add; simp
    rw [ha] at c0
    simpa using c0
theorem occs_of {H : Type} {enc : TypeId × Value → H} {W : World} {fuel : Nat} {v : Value} {y : DataW H × List MemPlace} (hf : DataW.trod enc Try.prog W 0 (fun _ => true) true fuel 26 [v] = some y) :
    ∃ q n c l, v = .slice q n c ∧ n ≤ maxLen ∧ OS W q n c l := by
  have hce : Try.prog.cellsOf 44 = 5 := by kernel_rfl
  rcases slice_of Try.underlying26 hf with rfl | ⟨a, n, m, rfl, hl, hm, hel⟩
  · exact ⟨none, 0, 0, [], rfl, by omega, ⟨rfl, .inl rfl⟩⟩
  · by_cases hn : n = 0
    · subst hn
      exact ⟨some a, 0, m, [], rfl, by omega, ⟨rfl, .inl rfl⟩⟩
    · have each : ∀ i, i < m → ∃ o : Oc, W.cell? (a.add (i * 5)) = some (.int .i64 o.f) ∧ W.cell? ((a.add (i * 5)).add 1) = some (.int .i64 o.a) ∧ W.cell? ((a.add (i * 5)).add 2) = some (.int .i64 o.e) ∧ W.cell? ((a.add (i * 5)).add 3) = some (.int .i64 o.s) ∧ W.cell? ((a.add (i * 5)).add 4) = some (.bool o.d) := fun i hi => by
        obtain ⟨cs', k, z, h1, h2⟩ := hel i hi
        rw [hce] at h1
        exact occ_cells h1 h2
      obtain ⟨b, off, spot⟩ := a
      obtain ⟨x0, h0, _⟩ := each 0 (by omega)
      have hspot : spot = none := by simpa [Addr.add] using World.cell?_spot h0
      subst hspot
      obtain ⟨q, hq⟩ := choose_lt each
      refine ⟨some ⟨b, off, none⟩, n, m, (List.range n).map q, rfl, by omega, ⟨by simp, .inr ⟨b, off, rfl, hl, World.block_lt_of_cell? W _ h0, fun i x hi => ?_⟩⟩⟩
      have hin : i < n := by have := (List.getElem?_eq_some_iff.1 hi).1; simpa using this
      rw [List.getElem?_map, List.getElem?_range hin] at hi
      simp only [Option.map_some, Option.some.injEq] at hi
      subst hi
      obtain ⟨c0, c1, c2, c3, c4⟩ := hq i (by omega)
      rw [add_at] at c0 c1 c2 c3 c4
      rw [add_at] at c1 c2 c3 c4
      exact ⟨c0, c1, c2, c3, c4⟩
theorem ints_argm {H : Type} {enc : TypeId × Value → H} {W : World} {base : Nat} {v : Value} {d : DataW H} {p : List MemPlace} (hv : Value.okWide Try.prog W .any base 22 v)
    (h : DataW.Trod enc Try.prog W 0 (fun _ => true) true 22 v d p) : ∃ q n c l, v = .slice q n c ∧ n ≤ maxLen ∧ (IS W q n c l ∧ ∀ x ∈ l, W64 x) := by
  obtain ⟨q, n, c, rfl⟩ := okWide_slice Try.underlying22 hv
  obtain ⟨fuel, hf⟩ := h
  exact ints_of (v := .slice q n c) hf
theorem occs_arg {H : Type} {enc : TypeId × Value → H} {W : World} {base : Nat} {v : Value} {d : DataW H} {p : List MemPlace} (hv : Value.okWide Try.prog W .any base 26 v)
    (h : DataW.Trod enc Try.prog W 0 (fun _ => true) true 26 v d p) : ∃ q n c l, v = .slice q n c ∧ n ≤ maxLen ∧ OS W q n c l := by
  obtain ⟨q, n, c, rfl⟩ := okWide_slice Try.underlying26 hv
  obtain ⟨fuel, hf⟩ := h
  exact occs_of (v := .slice q n c) hf
theorem graph_arg {H : Type} {enc : TypeId × Value → H} {W : World} {base : Nat} {v : Value} {d : DataW H} {p : List MemPlace} (hv : Value.okWide Try.prog W .any base 25 v)
    (h : DataW.Trod enc Try.prog W 0 (fun _ => true) true 25 v d p) : ∃ g E L V, v = Gr.v g ∧ GrIn W g E L V := by
  obtain ⟨v0, v1, v2, y0, y1, y2, n, rfl, _, _, h0, h1, h2⟩ := Go.Joins.open_agg3 Try.underlying25 (by kernel_rfl) (show Try.prog.cellsOf 25 = 3 by kernel_rfl) hv h
  obtain ⟨q0, n0, c0, l0, rfl, _, i0, w0⟩ := ints_of h0
  obtain ⟨q1, n1, c1, l1, rfl, _, i1, w1⟩ := pairs_of h1
  obtain ⟨q2, n2, c2, l2, rfl, _, i2, w2⟩ := ints_of h2
  exact ⟨⟨q0, n0, c0, q1, n1, c1, q2, n2, c2⟩, l0, l1, l2, rfl, i0, i1, i2, w0, w1, w2⟩
end Go.Proofs.Ytggoajpemffbiaa
