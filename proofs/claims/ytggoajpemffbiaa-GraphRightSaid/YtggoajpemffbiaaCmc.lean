/-
  slices.Compact at links, walked.
-/
import Derived.Test.YtggoajpemffbiaaLor
import Derived.Test.YtggoajpemffbiaaSmr
import Derived.Lib.SliceRun
import Derived.BigRegion
namespace Go.Proofs.Ytggoajpemffbiaa
open Go.RowKit
set_option maxRecDepth 20000
set_option linter.unusedVariables false
set_option linter.unusedSimpArgs false

/-- Of the first k those that are not what stands ahead of them. -/
def ddTo (l : List P2) : Nat → List P2
  | 0 => []
  | k + 1 => ddTo l k ++ (match l[k]? with | some x => (bif decide (0 < k) && decide (l[k - 1]? = some x) then [] else [x]) | none => [])
theorem ddTo_first {l : List P2} {x : P2} (h : l[0]? = some x) : ddTo l 1 = [x] := by simp [ddTo, h]
theorem ddTo_same {l : List P2} {k : Nat} {x : P2} (h : l[k + 1]? = some x) (h2 : l[k]? = some x) : ddTo l (k + 2) = ddTo l (k + 1) := by
  rw [show k + 2 = (k + 1) + 1 from rfl, ddTo]
  simp [h, h2]
theorem ddTo_next {l : List P2} {k : Nat} {x y : P2} (h : l[k + 1]? = some x) (h2 : l[k]? = some y) (hne : x ≠ y) : ddTo l (k + 2) = ddTo l (k + 1) ++ [x] := by
  rw [show k + 2 = (k + 1) + 1 from rfl, ddTo]
  have : ¬ y = x := fun e => hne e.symm
  simp [h, h2, this]
theorem ddTo_len (l : List P2) : ∀ k, (ddTo l k).length ≤ k
  | 0 => by simp [ddTo]
  | k + 1 => by
    have := ddTo_len l k
    rw [ddTo, List.length_append]
    cases h : l[k]? with
    | none => simp; omega
    | some x =>
      simp only
      generalize (decide (0 < k) && decide (l[k - 1]? = some x)) = b
      cases b <;> simp <;> omega
/-- None of the first k is what stands ahead of it. -/
def Apart (l : List P2) (k : Nat) : Prop := ∀ j x, j + 1 < k → l[j + 1]? = some x → l[j]? ≠ some x
theorem ddTo_apart {l : List P2} : ∀ {k : Nat}, k ≤ l.length → Apart l k → ddTo l k = l.take k
  | 0, _, _ => by simp [ddTo]
  | 1, hk, _ => by
    obtain ⟨x, hx⟩ : ∃ x, l[0]? = some x := ⟨_, List.getElem?_eq_getElem (by omega)⟩
    rw [ddTo_first hx, List.take_add_one, hx]; simp
  | k + 2, hk, h => by
    obtain ⟨x, hx⟩ : ∃ x, l[k + 1]? = some x := ⟨_, List.getElem?_eq_getElem (by omega)⟩
    obtain ⟨y, hy⟩ : ∃ y, l[k]? = some y := ⟨_, List.getElem?_eq_getElem (by omega)⟩
    have hne : x ≠ y := fun e => h k x (by omega) hx (by rw [hy, e])
    rw [ddTo_next hx hy hne, ddTo_apart (by omega) (fun j z hj => h j z (by omega)), List.take_add_one (i := k + 1), hx]; simp
theorem ddTo_mem {l : List P2} : ∀ {k : Nat}, k ≤ l.length → ∀ x, x ∈ ddTo l k ↔ x ∈ l.take k
  | 0, _, x => by simp [ddTo]
  | 1, hk, x => by
    obtain ⟨y, hy⟩ : ∃ y, l[0]? = some y := ⟨_, List.getElem?_eq_getElem (by omega)⟩
    rw [ddTo_first hy, List.take_add_one, hy]; simp
  | k + 2, hk, z => by
    obtain ⟨x, hx⟩ : ∃ x, l[k + 1]? = some x := ⟨_, List.getElem?_eq_getElem (by omega)⟩
    obtain ⟨y, hy⟩ : ∃ y, l[k]? = some y := ⟨_, List.getElem?_eq_getElem (by omega)⟩
    have ih := ddTo_mem (l := l) (k := k + 1) (by omega) z
    by_cases e : x = y
    · subst e
      rw [ddTo_same hx hy, ih, List.take_add_one (i := k + 1), hx, List.mem_append]
      constructor
      · exact .inl
      · rintro (h | h)
        · exact h
        · simp at h; subst h
          rw [List.take_add_one, hy]; simp
    · rw [ddTo_next hx hy e, List.take_add_one (i := k + 1), hx, List.mem_append, List.mem_append, ih]; simp
theorem ddTo_rise {l : List P2} (hl : l.Pairwise fun a b => plt b a = false) : ∀ {k : Nat}, k ≤ l.length → Rise (ddTo l k)
  | 0, _ => List.Pairwise.nil
  | 1, hk => by
    obtain ⟨y, hy⟩ : ∃ y, l[0]? = some y := ⟨_, List.getElem?_eq_getElem (by omega)⟩
    rw [ddTo_first hy]; exact List.pairwise_singleton _ _
  | k + 2, hk => by
    obtain ⟨x, hx⟩ : ∃ x, l[k + 1]? = some x := ⟨_, List.getElem?_eq_getElem (by omega)⟩
    obtain ⟨y, hy⟩ : ∃ y, l[k]? = some y := ⟨_, List.getElem?_eq_getElem (by omega)⟩
    have ih := ddTo_rise hl (k := k + 1) (by omega)
    have hle : ∀ i j a b, i < j → l[i]? = some a → l[j]? = some b → plt b a = false := fun i j a b hij ha hb => by
      obtain ⟨hi, ea⟩ := List.getElem?_eq_some_iff.1 ha
      obtain ⟨hj, eb⟩ := List.getElem?_eq_some_iff.1 hb
      have := (List.pairwise_iff_getElem.1 hl) i j hi hj hij
      rwa [ea, eb] at this
    by_cases e : x = y
    · subst e; rw [ddTo_same hx hy]; exact ih
    · rw [ddTo_next hx hy e]
      unfold Rise at ih ⊢
      rw [List.pairwise_append]
      refine ⟨ih, List.pairwise_singleton _ _, fun a ha b hb => ?_⟩
      simp only [List.mem_singleton] at hb
      subst hb
      have hyx : plt y b = true := by
        cases hc : plt y b with
        | true => rfl
        | false => exact absurd (plt_total (hle k (k + 1) y b (by omega) hy hx) hc) e
      have ha2 := (ddTo_mem (by omega) a).1 ha
      obtain ⟨i, hi⟩ := List.mem_iff_getElem?.1 ha2
      have hik : i < k + 1 := by
        have := (List.getElem?_eq_some_iff.1 hi).1
        simp at this; omega
      rw [List.getElem?_take, if_pos hik] at hi
      by_cases hik2 : i = k
      · subst hik2; rw [hy] at hi; cases hi; exact hyx
      · have h1 := hle i k a y (by omega) hi hy
        cases hc : plt a b with
        | true => rfl
        | false =>
          have h2 := hle i (k + 1) a b (by omega) hi hx
          have := plt_total hc h2
          subst this
          rw [hyx] at h1; cases h1
theorem ddTo_puts (l m : List P2) (hm : m.Pairwise fun a b => plt b a = false) (hmem : ∀ x, x ∈ m ↔ x ∈ lnk l) : ddTo m m.length = puts l :=
  rise_ext (ddTo_rise hm (Nat.le_refl _)) (puts_rise l) fun x => by rw [ddTo_mem (Nat.le_refl _), List.take_length, hmem, puts_mem]

/-- A row of links, in block g. -/
structure RowP (w : World) (g : Nat) (l : List P2) : Prop where
  lt : g < w.heap.size
  at_ : ∀ (i : Nat) (p : P2), l[i]? = some p → w.cell? ⟨g, i * 2, none⟩ = some (.int .i64 p.1) ∧ w.cell? ⟨g, i * 2 + 1, none⟩ = some (.int .i64 p.2)
  fz : ∀ j, j < l.length * 2 → w.frozen? ⟨g, j, none⟩ = false
theorem frozen_set (w : World) (g j : Nat) (v : Value) (k : Nat) : (w.setCell ⟨g, j, none⟩ v).frozen? ⟨g, k, none⟩ = w.frozen? ⟨g, k, none⟩ := by simp [go_sem]
theorem cset_ne (w : World) (g : Nat) {i j : Nat} (v : Value) (h : j ≠ i) : (w.setCell ⟨g, i, none⟩ v).cell? ⟨g, j, none⟩ = w.cell? ⟨g, j, none⟩ := World.cell?_setCell_other _ _ _ _ (fun e => by injection e with _ e _; exact h e.symm)
theorem RowP.put {w : World} {g : Nat} {l : List P2} (h : RowP w g l) {i : Nat} (hi : i < l.length) (p : P2) : RowP ((w.setCell ⟨g, i * 2, none⟩ (.int .i64 p.1)).setCell ⟨g, i * 2 + 1, none⟩ (.int .i64 p.2)) g (l.set i p) := by
  obtain ⟨q, hq⟩ : ∃ q, l[i]? = some q := ⟨_, List.getElem?_eq_getElem hi⟩
  obtain ⟨c0, c1⟩ := h.at_ i q hq
  refine ⟨by simpa using h.lt, fun j x hj => ?_, fun j hj => ?_⟩
  · by_cases hij : i = j
    · subst hij
      rw [List.getElem?_set, if_pos rfl, if_pos hi] at hj
      cases hj
      constructor
      · rw [cset_ne _ _ _ (by omega), World.cell?_setCell_same _ _ _ c0]
      · exact World.cell?_setCell_same _ _ _ ((cset_ne _ _ _ (by omega)).trans c1)
    · rw [List.getElem?_set, if_neg hij] at hj
      obtain ⟨a, b⟩ := h.at_ j x hj
      constructor
      · rw [cset_ne _ _ _ (by omega), cset_ne _ _ _ (by omega)]; exact a
      · rw [cset_ne _ _ _ (by omega), cset_ne _ _ _ (by omega)]; exact b
  · rw [frozen_set, frozen_set]
    exact h.fz j (by simpa using hj)
theorem wr_put (w : World) (g i : Nat) (p : P2) : Wr g w ((w.setCell ⟨g, i * 2, none⟩ (.int .i64 p.1)).setCell ⟨g, i * 2 + 1, none⟩ (.int .i64 p.2)) :=
  (Wr.set g (i * 2) _ w).trans (Wr.set g (i * 2 + 1) _ _)

theorem RowP.drewN {w : World} {g : Nat} {l : List P2} (h : RowP w g l) (q : Nat) : RowP (w.drewN q) g l := ⟨h.lt, h.at_, h.fz⟩
theorem Wr.drewN (g : Nat) (w : World) (q : Nat) : Wr g w (w.drewN q) := ⟨rfl, fun _ _ => rfl, fun _ _ _ h => below_drewN h q⟩
theorem setCells_wr (g : Nat) : ∀ (vs : List Value) (o : Nat) (w : World), Wr g w (w.setCells g o vs) ∧ ∀ j, j < o → (w.setCells g o vs).cell? ⟨g, j, none⟩ = w.cell? ⟨g, j, none⟩
  | [], o, w => ⟨Wr.refl g w, fun _ _ => rfl⟩
  | v :: r, o, w => by
    obtain ⟨h1, h2⟩ := setCells_wr g r (o + 1) (w.setCell ⟨g, o, none⟩ v)
    refine ⟨(Wr.set g o v w).trans h1, fun j hj => ?_⟩
    have := h2 j (by omega)
    rw [World.setCells]
    rw [this, cset_ne _ _ _ (by omega)]
theorem zero65 (w : World) : (zeroValue 57).run Try.prog w = .ok (.agg #[.int .i64 0, .int .i64 0]) w := by kernel_rfl
theorem held65 : Try.prog.stoodInHeld 57 = false := by kernel_rfl
theorem pair65_eq (a b : P2) (w : World) : (Op.equal 57 (.agg #[.int .i64 a.1, .int .i64 a.2]) (.agg #[.int .i64 b.1, .int .i64 b.2])).run Try.prog w = .ok (decide (a = b)) w := by
  obtain ⟨s, n⟩ := a
  obtain ⟨t, m⟩ := b
  unfold Op.equal Op.maxDepth
  rw [show (10000 : Nat) = 9999 + 1 from rfl]
  unfold Op.equalIn
  simp [run_underlying Try.underlying57, held65, Result.andThen, part3_0', part3_1', eqI']
  by_cases h : s = t <;> by_cases h2 : n = m <;> simp [h, h2, Result.andThen, part3_1', eqI']
theorem eql65 (a b : P2) (W : World) : (binOp .eql 57 (.agg #[.int .i64 a.1, .int .i64 a.2]) (.agg #[.int .i64 b.1, .int .i64 b.2])).run Try.prog W = .ok (.bool (decide (a = b))) W := by
  have := pair65_eq a b W
  simp only [binOp]
  simp [this]
theorem neq65 (a b : P2) (W : World) : (binOp .neq 57 (.agg #[.int .i64 a.1, .int .i64 a.2]) (.agg #[.int .i64 b.1, .int .i64 b.2])).run Try.prog W = .ok (.bool (!decide (a = b))) W := by
  have := pair65_eq a b W
  simp only [binOp]
  simp [this]
/-- What is left of a row is emptied. -/
theorem clear_row (w : World) (g k n c : Nat) (l : List P2) (ty : TypeId) (h : RowP w g l) (hn : l.length = n) (hk : k < n) :
    ∃ w', (Builtin.clear_ #[63] ty #[.slice (some ⟨g, k * 2, none⟩) (n - k) c]).run Try.prog w = .ok (.tuple #[]) w' ∧ Wr g w w' ∧ ∀ j, j < k * 2 → w'.cell? ⟨g, j, none⟩ = w.cell? ⟨g, j, none⟩ := by
  obtain ⟨m, hm⟩ : ∃ m, n - k = m + 1 := ⟨n - k - 1, by omega⟩
  have hzc : ∀ v ∈ (Builtin.zeroCells #[.int .i64 0, .int .i64 0] (m + 1)).toList, v = .int .i64 0 := by
    intro v hv
    simp only [Builtin.zeroCells] at hv
    rw [Array.mem_toList_iff, Array.mem_map] at hv
    obtain ⟨i, _, rfl⟩ := hv
    show (#[Value.int .i64 0, .int .i64 0] : Array Value)[i % 2]! = _
    rcases Nat.lt_or_ge (i % 2) 1 with h1 | h1
    · rw [show i % 2 = 0 by omega]; rfl
    · rw [show i % 2 = 1 by omega]; rfl
  have hlen : (Builtin.zeroCells #[.int .i64 0, .int .i64 0] (m + 1)).toList.length = (m + 1) * 2 := by simp [Builtin.zeroCells]
  generalize hvs : (Builtin.zeroCells #[.int .i64 0, .int .i64 0] (m + 1)).toList = vs at hzc hlen
  have hcl : ∀ j, j < vs.length → (w.cell? ⟨g, k * 2 + 0 + j, none⟩).isSome = true := fun j hj => by
    obtain ⟨p, hp⟩ : ∃ p, l[k + j / 2]? = some p := ⟨_, List.getElem?_eq_getElem (by omega)⟩
    obtain ⟨c0, c1⟩ := h.at_ _ p hp
    rcases Nat.lt_or_ge (j % 2) 1 with h1 | h1
    · rw [show k * 2 + 0 + j = (k + j / 2) * 2 by omega, c0]; rfl
    · rw [show k * 2 + 0 + j = (k + j / 2) * 2 + 1 by omega, c1]; rfl
  have hst := run_storeCells_cells (P := Try.prog) g (k * 2) vs 0 w hcl (fun j hj => h.fz _ (by omega)) (fun v hv => by rw [hzc v hv]; rfl)
  rw [Nat.add_zero] at hst
  obtain ⟨h1, h2⟩ := setCells_wr g vs (k * 2) w
  refine ⟨_, ?_, h1, h2⟩
  rw [hm]
  have hvs' : (Builtin.zeroCells (Value.cells (.agg #[.int .i64 0, .int .i64 0])) (m + 1)).toList = vs := by rw [← hvs]; rfl
  simp [Builtin.clear_, run_underlying Try.underlying63, zero65, hvs', hst]
end Go.Proofs.Ytggoajpemffbiaa
