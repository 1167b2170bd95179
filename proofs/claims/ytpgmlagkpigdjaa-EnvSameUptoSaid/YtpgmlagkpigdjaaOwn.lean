/-
  Rows of bindings that a call has made, and slices.Reverse.
-/
import Derived.Test.YtpgmlagkpigdjaaFnu
import Derived.Laws.OwnMore
namespace Go.Proofs.Ytpgmlagkpigdjaa
open Go.RowKit
set_option maxRecDepth 20000
set_option linter.unusedVariables false
set_option linter.unusedSimpArgs false

def Bi.cells (b : Bi) : List Value := [.int .i64 b.k.1, .string b.k.2, .int .i64 b.dc, .int .i64 b.via, .pointer b.pa, .pointer b.pm]
def bcells (l : List Bi) : List Value := l.flatMap Bi.cells
theorem bcells_append (a b : List Bi) : bcells (a ++ b) = bcells a ++ bcells b := by simp [bcells]
theorem bcells_length (l : List Bi) : (bcells l).length = l.length * 6 := by
  induction l with
  | nil => rfl
  | cons v r ih => simp only [bcells, List.flatMap_cons, List.length_append] at *; rw [ih]; simp [Bi.cells]; omega
theorem bcells_get (l : List Bi) (j : Nat) (v : Bi) (h : l[j]? = some v) (r : Nat) (hr : r < 6) : (bcells l)[j * 6 + r]? = v.cells[r]? := by
  induction l generalizing j with
  | nil => simp at h
  | cons x t ih =>
    have hx : x.cells.length = 6 := rfl
    simp only [bcells, List.flatMap_cons] at *
    cases j with
    | zero =>
      simp only [List.getElem?_cons_zero, Option.some.injEq] at h
      subst h
      rw [Nat.zero_mul, Nat.zero_add, List.getElem?_append_left (by omega)]
    | succ j =>
      simp only [List.getElem?_cons_succ] at h
      rw [List.getElem?_append_right (by omega), show (j + 1) * 6 + r - x.cells.length = j * 6 + r by omega]
      exact ih j h
/-- One binding put into a row's cells. -/
def put6 (xs : List Value) (i : Nat) (b : Bi) : List Value := (((((xs.set (i * 6) (.int .i64 b.k.1)).set (i * 6 + 1) (.string b.k.2)).set (i * 6 + 2) (.int .i64 b.dc)).set (i * 6 + 3) (.int .i64 b.via)).set (i * 6 + 4) (.pointer b.pa)).set (i * 6 + 5) (.pointer b.pm)
theorem put6_bcells (l : List Bi) (i : Nat) (b : Bi) (h : i < l.length) : put6 (bcells l) i b = bcells (l.set i b) := by
  induction l generalizing i with
  | nil => simp at h
  | cons x t ih =>
    cases i with
    | zero => simp [put6, bcells, Bi.cells]
    | succ i =>
      have e : ∀ (n : Nat) (v : Value) (ys : List Value), (x.cells ++ ys).set (n + 6) v = x.cells ++ ys.set n v := fun n v ys => by
        simp [Bi.cells]
      have := ih i (by simpa using h)
      simp only [put6, bcells, List.flatMap_cons, List.set_cons_succ] at *
      rw [show (i + 1) * 6 = i * 6 + 6 by omega, e, show i * 6 + 6 + 1 = i * 6 + 1 + 6 by omega, e, show i * 6 + 6 + 2 = i * 6 + 2 + 6 by omega, e, show i * 6 + 6 + 3 = i * 6 + 3 + 6 by omega, e, show i * 6 + 6 + 4 = i * 6 + 4 + 6 by omega, e, show i * 6 + 6 + 5 = i * 6 + 5 + 6 by omega, e, this]
def OwnB (w : World) (base : Nat) (v : Value) (l : List Bi) : Prop := w.ownsRow base 52 6 v l.length (bcells l)
theorem OwnB.at_ {w : World} {base g n c : Nat} {l : List Bi} (h : OwnB w base (.slice (some ⟨g, 0, none⟩) n c) l) (i : Nat) (b : Bi) (hi : l[i]? = some b) : BiAt w g i b := by
  have hl : i < l.length := (List.getElem?_eq_some_iff.1 hi).1
  have hn : n = l.length := by
    obtain ⟨_, ⟨h0, _⟩ | ⟨g', c', cur, hv, _⟩⟩ := h
    · cases h0
    · simp only [Value.slice.injEq] at hv; exact hv.2.1
  subst hn
  have h' : w.ownsRow base 52 6 (.slice (some ⟨g, 0, none⟩) l.length c) l.length (bcells l) := h
  have key : ∀ r v, r < 6 → b.cells[r]? = some v → w.cell? ⟨g, i * 6 + r, none⟩ = some v := fun r v hr hv => by
    rw [h'.cellAt (i * 6 + r) (by omega), bcells_get l i b hi r hr, hv]
  exact ⟨key 0 _ (by omega) rfl, key 1 _ (by omega) rfl, key 2 _ (by omega) rfl, key 3 _ (by omega) rfl, key 4 _ (by omega) rfl, key 5 _ (by omega) rfl⟩
theorem OwnB.slice {w : World} {base : Nat} {v : Value} {l : List Bi} (h : OwnB w base v l) : (v = .slice none 0 0 ∧ l = []) ∨ ∃ g c, v = .slice (some ⟨g, 0, none⟩) l.length c ∧ base ≤ g ∧ g < w.heap.size ∧ l.length ≤ c := by
  obtain ⟨hl, ⟨h0, h1⟩ | ⟨g, c, cur, hv, hb, hg, hc, _⟩⟩ := h
  · exact .inl ⟨h0, List.eq_nil_of_length_eq_zero h1⟩
  · exact .inr ⟨g, c, hv, hb, heap_lt hg, hc⟩
theorem OwnB.bs {w : World} {base : Nat} {v : Value} {l : List Bi} (h : OwnB w base v l) : ∃ q n c, v = .slice q n c ∧ BS w q n c l := by
  rcases h.slice with ⟨rfl, rfl⟩ | ⟨g, c, rfl, hb, hg, hc⟩
  · exact ⟨none, 0, 0, rfl, rfl, .inl rfl⟩
  · exact ⟨some ⟨g, 0, none⟩, _, c, rfl, rfl, .inr ⟨g, rfl, hc, hg, fun i b hi => h.at_ i b hi⟩⟩
theorem OwnB.step {w w' : World} {base : Nat} {v : Value} {l : List Bi} (h : OwnB w base v l) (hw : Below w.heap.size w w') : OwnB w' base v l := by
  obtain ⟨hl, h0 | ⟨g, c, cur, hv, hb, hg, hr⟩⟩ := h
  · exact ⟨hl, .inl h0⟩
  · exact ⟨hl, .inr ⟨g, c, cur, hv, hb, heap_step hg hw, hr⟩⟩
theorem OwnB.base {w : World} {b b' : Nat} {v : Value} {l : List Bi} (h : OwnB w b v l) (hb : b' ≤ b) : OwnB w b' v l := by
  obtain ⟨hl, h0 | ⟨g, c, cur, hv, hg0, hg, hr⟩⟩ := h
  · exact ⟨hl, .inl h0⟩
  · exact ⟨hl, .inr ⟨g, c, cur, hv, Nat.le_trans hb hg0, hg, hr⟩⟩
/-- One binding stored into a row. -/
def set6 (w : World) (g i : Nat) (b : Bi) : World := (((((w.setCell ⟨g, i * 6, none⟩ (.int .i64 b.k.1)).setCell ⟨g, i * 6 + 1, none⟩ (.string b.k.2)).setCell ⟨g, i * 6 + 2, none⟩ (.int .i64 b.dc)).setCell ⟨g, i * 6 + 3, none⟩ (.int .i64 b.via)).setCell ⟨g, i * 6 + 4, none⟩ (.pointer b.pa)).setCell ⟨g, i * 6 + 5, none⟩ (.pointer b.pm)
theorem OwnB.put {w : World} {base g c : Nat} {l : List Bi} (h : OwnB w base (.slice (some ⟨g, 0, none⟩) l.length c) l) (i : Nat) (b : Bi) (hi : i < l.length) : OwnB (set6 w g i b) base (.slice (some ⟨g, 0, none⟩) l.length c) (l.set i b) := by
  have h1 := (((((World.ownsRow.stored h (i * 6) (.int .i64 b.k.1)).1.stored (i * 6 + 1) (.string b.k.2)).1.stored (i * 6 + 2) (.int .i64 b.dc)).1.stored (i * 6 + 3) (.int .i64 b.via)).1.stored (i * 6 + 4) (.pointer b.pa)).1.stored (i * 6 + 5) (.pointer b.pm)
  have h2 := h1.1
  unfold OwnB
  rw [← put6_bcells l i b hi, List.length_set]
  exact h2
theorem kp_set6 (w : World) (g i : Nat) (b : Bi) : Kp g w (set6 w g i b) := by
  refine ⟨by simp [set6], fun k hk hne => ?_⟩
  unfold set6
  rw [Below.heap_setCell _ ⟨g, _, none⟩ _ k hne, Below.heap_setCell _ ⟨g, _, none⟩ _ k hne, Below.heap_setCell _ ⟨g, _, none⟩ _ k hne, Below.heap_setCell _ ⟨g, _, none⟩ _ k hne, Below.heap_setCell _ ⟨g, _, none⟩ _ k hne, Below.heap_setCell _ ⟨g, _, none⟩ _ k hne]
theorem OwnB.frozen {w : World} {base g c : Nat} {l : List Bi} (h : OwnB w base (.slice (some ⟨g, 0, none⟩) l.length c) l) (j : Nat) : w.frozen? ⟨g, j, none⟩ = false := World.ownsRow.frozenAt h j
end Go.Proofs.Ytpgmlagkpigdjaa
