/-
  Rows of numbers and of pairs, of a call's own and handed in; worlds in which one block alone has turned.
-/
import Derived.Test.YtggoajpemffbiaaMem
import Derived.Test.YtggoajpemffbiaaLks
import Derived.OwnWalk
import Derived.Laws.OwnMore
import Derived.Lib.Hide
namespace Go.Proofs.Ytggoajpemffbiaa
open Go.RowKit
set_option maxRecDepth 20000
set_option linter.unusedVariables false
set_option linter.unusedSimpArgs false

/-- No block but g has turned, and none is new. -/
structure Wr (g : Nat) (w w' : World) : Prop where
  size : w'.heap.size = w.heap.size
  blk : ∀ k, k ≠ g → w'.heap[k]? = w.heap[k]?
  bel : ∀ N W, N ≤ g → Below N W w → Below N W w'
theorem Wr.refl (g : Nat) (w : World) : Wr g w w := ⟨rfl, fun _ _ => rfl, fun _ _ _ h => h⟩
theorem Wr.trans {g : Nat} {a b c : World} (h : Wr g a b) (k : Wr g b c) : Wr g a c :=
  ⟨k.size.trans h.size, fun j hj => (k.blk j hj).trans (h.blk j hj), fun N W hN hB => k.bel N W hN (h.bel N W hN hB)⟩
theorem Wr.set (g j : Nat) (v : Value) (w : World) : Wr g w (w.setCell ⟨g, j, none⟩ v) :=
  ⟨by simp, fun k hk => Below.heap_setCell w ⟨g, j, none⟩ v k hk, fun N W hN hB => hB.setCell hN v⟩
theorem Wr.drew (g : Nat) (w : World) : Wr g w w.drew := ⟨rfl, fun _ _ => rfl, fun _ _ _ h => h.drew⟩
theorem Wr.cell {g b j : Nat} {w w' : World} (h : Wr g w w') (hb : b ≠ g) : w'.cell? ⟨b, j, none⟩ = w.cell? ⟨b, j, none⟩ := World.cell?_of_block (w := w) (h.blk b hb)
theorem Wr.below {g : Nat} {w w' : World} (h : Wr g w w') : Below g w w' := h.bel g w (Nat.le_refl _) (Below.refl _ _)

/-- A row of numbers of a call's own. -/
def OwnI (w : World) (base : Nat) (v : Value) (l : List Int) : Prop := w.ownsRow base 3 1 v l.length (l.map (Value.int .i64))
theorem OwnI.step {w w' : World} {base : Nat} {v : Value} {l : List Int} (h : OwnI w base v l) (hw : Below w.heap.size w w') : OwnI w' base v l := by
  obtain ⟨hl, h0 | ⟨g, c, cur, hv, hb, hg, hr⟩⟩ := h
  · exact ⟨hl, .inl h0⟩
  · exact ⟨hl, .inr ⟨g, c, cur, hv, hb, heap_step hg hw, hr⟩⟩
theorem OwnI.base {w : World} {b b' : Nat} {v : Value} {l : List Int} (h : OwnI w b v l) (hb : b' ≤ b) : OwnI w b' v l := by
  obtain ⟨hl, h0 | ⟨g, c, cur, hv, hg0, hg, hr⟩⟩ := h
  · exact ⟨hl, .inl h0⟩
  · exact ⟨hl, .inr ⟨g, c, cur, hv, Nat.le_trans hb hg0, hg, hr⟩⟩
theorem OwnI.slice {w : World} {base : Nat} {v : Value} {l : List Int} (h : OwnI w base v l) : (v = .slice none 0 0 ∧ l = []) ∨ ∃ g c, v = .slice (some ⟨g, 0, none⟩) l.length c ∧ base ≤ g ∧ g < w.heap.size ∧ l.length ≤ c := by
  obtain ⟨hl, ⟨h0, h1⟩ | ⟨g, c, cur, hv, hb, hg, hc, _⟩⟩ := h
  · exact .inl ⟨h0, List.eq_nil_of_length_eq_zero h1⟩
  · exact .inr ⟨g, c, hv, hb, heap_lt hg, hc⟩
theorem OwnI.n {w : World} {base g n c : Nat} {l : List Int} (h : OwnI w base (.slice (some ⟨g, 0, none⟩) n c) l) : n = l.length ∧ base ≤ g ∧ g < w.heap.size ∧ n ≤ c := by
  rcases h.slice with ⟨h0, _⟩ | ⟨g', c', hv, hb, hg, hc⟩
  · cases h0
  · simp only [Value.slice.injEq, Option.some.injEq, Addr.mk.injEq, and_true] at hv
    obtain ⟨rfl, rfl, rfl⟩ := hv
    exact ⟨rfl, hb, hg, hc⟩
theorem OwnI.cell {w : World} {base g n c : Nat} {l : List Int} (h : OwnI w base (.slice (some ⟨g, 0, none⟩) n c) l) (i : Nat) (x : Int) (hi : l[i]? = some x) : w.cell? ⟨g, i, none⟩ = some (.int .i64 x) := by
  have hn := h.n.1
  have hl : i < l.length := (List.getElem?_eq_some_iff.1 hi).1
  subst hn
  have h' : w.ownsRow base 3 1 (.slice (some ⟨g, 0, none⟩) l.length c) l.length (l.map (Value.int .i64)) := h
  rw [h'.cellAt i (by omega), List.getElem?_map, hi]; rfl
theorem OwnI.put {w : World} {base g n c : Nat} {l : List Int} (h : OwnI w base (.slice (some ⟨g, 0, none⟩) n c) l) (i : Nat) (x : Int) : OwnI (w.setCell ⟨g, i, none⟩ (.int .i64 x)) base (.slice (some ⟨g, 0, none⟩) n c) (l.set i x) := by
  have hn := h.n.1
  subst hn
  have h' : w.ownsRow base 3 1 (.slice (some ⟨g, 0, none⟩) l.length c) l.length (l.map (Value.int .i64)) := h
  unfold OwnI
  rw [List.length_set, List.map_set]
  exact (World.ownsRow.stored h' i (.int .i64 x)).1
theorem OwnI.frozen {w : World} {base g n c : Nat} {l : List Int} (h : OwnI w base (.slice (some ⟨g, 0, none⟩) n c) l) (j : Nat) : w.frozen? ⟨g, j, none⟩ = false := by
  have hn := h.n.1
  subst hn
  exact World.ownsRow.frozenAt h j
theorem OwnI.wr {w w' : World} {base g : Nat} {v : Value} {l : List Int} (h : OwnI w base v l) (hv : v.ownBlock ≠ some g) (hw : Wr g w w') : OwnI w' base v l := by
  obtain ⟨hl, h0 | ⟨g', c, cur, hv', hb, hg, hr⟩⟩ := h
  · exact ⟨hl, .inl h0⟩
  · refine ⟨hl, .inr ⟨g', c, cur, hv', hb, (hw.blk g' ?_).trans hg, hr⟩⟩
    rintro rfl
    rw [hv'] at hv
    exact hv rfl
/-- The numbers below n, each with what a function says of it. -/
def rowF (n : Nat) (d : Nat → Nat) : List Int := (List.range n).map fun x => ((d x : Nat) : Int)
theorem rowF_len (n : Nat) (d : Nat → Nat) : (rowF n d).length = n := by simp [rowF]
theorem rowF_get (n : Nat) (d : Nat → Nat) (i : Nat) (h : i < n) : (rowF n d)[i]? = some ((d i : Nat) : Int) := by simp [rowF, h]
def updF (d : Nat → Nat) (i x : Nat) : Nat → Nat := fun y => if y = i then x else d y
theorem rowF_set (n : Nat) (d : Nat → Nat) (i x : Nat) : (rowF n d).set i (x : Int) = rowF n (updF d i x) := by
  apply List.ext_getElem?
  intro j
  rw [List.getElem?_set]
  by_cases hj : j < n
  · have e1 := rowF_get n (updF d i x) j hj
    have e2 := rowF_get n d j hj
    rw [rowF_len, e1, e2]
    by_cases hij : i = j
    · subst hij; rw [if_pos rfl, if_pos hj]; simp [updF]
    · have : ¬ j = i := fun e => hij e.symm
      rw [if_neg hij]; simp [updF, this]
  · have h1 : (rowF n (updF d i x))[j]? = none := List.getElem?_eq_none (by rw [rowF_len]; omega)
    have h2 : (rowF n d)[j]? = none := List.getElem?_eq_none (by rw [rowF_len]; omega)
    rw [h1, h2, rowF_len]
    by_cases hij : i = j
    · subst hij; rw [if_pos rfl, if_neg hj]
    · rw [if_neg hij]
theorem rowF_congr {n : Nat} {d e : Nat → Nat} (h : ∀ x, x < n → d x = e x) : rowF n d = rowF n e := by
  unfold rowF
  refine List.map_congr_left fun x hx => ?_
  rw [h x (List.mem_range.1 hx)]
theorem rowF_snoc (n : Nat) (d : Nat → Nat) : rowF (n + 1) d = rowF n d ++ [((d n : Nat) : Int)] := by simp [rowF, List.range_succ]

/-- A row of pairs that was handed in, or that a call has made. -/
def PS (w : World) (q : Option Addr) (n c : Nat) (l : List P2) : Prop :=
  n = l.length ∧ (n = 0 ∨ ∃ g o, q = some ⟨g, o, none⟩ ∧ n ≤ c ∧ g < w.heap.size ∧ ∀ i p, l[i]? = some p → w.cell? ⟨g, o + i * 2, none⟩ = some (.int .i64 p.1) ∧ w.cell? ⟨g, o + i * 2 + 1, none⟩ = some (.int .i64 p.2))
theorem PS.step {w w1 : World} {q : Option Addr} {n c : Nat} {l : List P2} (h : PS w q n c l) (hw : Below w.heap.size w w1) : PS w1 q n c l := by
  obtain ⟨hn, h0 | ⟨g, o, hq, hc, hg, hat⟩⟩ := h
  · exact ⟨hn, .inl h0⟩
  · exact ⟨hn, .inr ⟨g, o, hq, hc, Nat.lt_of_lt_of_le hg hw.size, fun i p hi => ⟨(hw.cell (p := ⟨g, _, none⟩) hg).trans (hat i p hi).1, (hw.cell (p := ⟨g, _, none⟩) hg).trans (hat i p hi).2⟩⟩⟩
def pc (p : P2) : List Value := [.int .i64 p.1, .int .i64 p.2]
def pcells (l : List P2) : List Value := l.flatMap pc
theorem pcells_length (l : List P2) : (pcells l).length = l.length * 2 := by
  induction l with
  | nil => rfl
  | cons v r ih => simp only [pcells, List.flatMap_cons, List.length_append] at *; rw [ih]; simp [pc]; omega
theorem pcells_append (a b : List P2) : pcells (a ++ b) = pcells a ++ pcells b := by simp [pcells]
theorem pcells_get (l : List P2) (j : Nat) (v : P2) (h : l[j]? = some v) (r : Nat) (hr : r < 2) : (pcells l)[j * 2 + r]? = (pc v)[r]? := by
  induction l generalizing j with
  | nil => simp at h
  | cons x t ih =>
    have hx : (pc x).length = 2 := rfl
    simp only [pcells, List.flatMap_cons] at *
    cases j with
    | zero =>
      simp only [List.getElem?_cons_zero, Option.some.injEq] at h
      subst h
      rw [Nat.zero_mul, Nat.zero_add, List.getElem?_append_left (by omega)]
    | succ j =>
      simp only [List.getElem?_cons_succ] at h
      rw [List.getElem?_append_right (by omega), show (j + 1) * 2 + r - (pc x).length = j * 2 + r by omega]
      exact ih j h
/-- A row of pairs (of element type T) of a call's own. -/
def OwnP (T : TypeId) (w : World) (base : Nat) (v : Value) (l : List P2) : Prop := w.ownsRow base T 2 v l.length (pcells l)
theorem OwnP.step {T : TypeId} {w w' : World} {base : Nat} {v : Value} {l : List P2} (h : OwnP T w base v l) (hw : Below w.heap.size w w') : OwnP T w' base v l := by
  obtain ⟨hl, h0 | ⟨g, c, cur, hv, hb, hg, hr⟩⟩ := h
  · exact ⟨hl, .inl h0⟩
  · exact ⟨hl, .inr ⟨g, c, cur, hv, hb, heap_step hg hw, hr⟩⟩
theorem OwnP.base {T : TypeId} {w : World} {b b' : Nat} {v : Value} {l : List P2} (h : OwnP T w b v l) (hb : b' ≤ b) : OwnP T w b' v l := by
  obtain ⟨hl, h0 | ⟨g, c, cur, hv, hg0, hg, hr⟩⟩ := h
  · exact ⟨hl, .inl h0⟩
  · exact ⟨hl, .inr ⟨g, c, cur, hv, Nat.le_trans hb hg0, hg, hr⟩⟩
theorem OwnP.slice {T : TypeId} {w : World} {base : Nat} {v : Value} {l : List P2} (h : OwnP T w base v l) : (v = .slice none 0 0 ∧ l = []) ∨ ∃ g c, v = .slice (some ⟨g, 0, none⟩) l.length c ∧ base ≤ g ∧ g < w.heap.size ∧ l.length ≤ c := by
  obtain ⟨hl, ⟨h0, h1⟩ | ⟨g, c, cur, hv, hb, hg, hc, _⟩⟩ := h
  · exact .inl ⟨h0, List.eq_nil_of_length_eq_zero h1⟩
  · exact .inr ⟨g, c, hv, hb, heap_lt hg, hc⟩
theorem OwnP.cells {T : TypeId} {w : World} {base g c : Nat} {l : List P2} (h : OwnP T w base (.slice (some ⟨g, 0, none⟩) l.length c) l) (i : Nat) (p : P2) (hi : l[i]? = some p) : w.cell? ⟨g, i * 2, none⟩ = some (.int .i64 p.1) ∧ w.cell? ⟨g, i * 2 + 1, none⟩ = some (.int .i64 p.2) := by
  have hl : i < l.length := (List.getElem?_eq_some_iff.1 hi).1
  have h' : w.ownsRow base T 2 (.slice (some ⟨g, 0, none⟩) l.length c) l.length (pcells l) := h
  have key : ∀ r v, r < 2 → (pc p)[r]? = some v → w.cell? ⟨g, i * 2 + r, none⟩ = some v := fun r v hr hv => by
    rw [h'.cellAt (i * 2 + r) (by omega), pcells_get l i p hi r hr, hv]
  exact ⟨key 0 _ (by omega) rfl, key 1 _ (by omega) rfl⟩
theorem OwnP.ps {T : TypeId} {w : World} {base : Nat} {v : Value} {l : List P2} (h : OwnP T w base v l) : ∃ q n c, v = .slice q n c ∧ PS w q n c l := by
  rcases h.slice with ⟨rfl, rfl⟩ | ⟨g, c, rfl, hb, hg, hc⟩
  · exact ⟨none, 0, 0, rfl, rfl, .inl rfl⟩
  · refine ⟨some ⟨g, 0, none⟩, _, c, rfl, rfl, .inr ⟨g, 0, rfl, hc, hg, fun i p hi => ?_⟩⟩
    have := h.cells i p hi
    simpa using this
theorem OwnP.snoc {T : TypeId} {w : World} {base : Nat} {v : Value} {l : List P2} {p : P2} (h : w.ownsRow base T 2 v (l.length + 1) (pcells l ++ pc p)) : OwnP T w base v (l ++ [p]) := by
  unfold OwnP
  rw [List.length_append, pcells_append]
  simpa [pcells] using h
theorem OwnI.snoc {w : World} {base : Nat} {v : Value} {l : List Int} {x : Int} (h : w.ownsRow base 3 1 v (l.length + 1) (l.map (Value.int .i64) ++ [Value.int .i64 x])) : OwnI w base v (l ++ [x]) := by
  unfold OwnI
  rw [List.length_append, List.map_append]
  exact h
theorem OwnI.nil (w : World) (base : Nat) : OwnI w base (.slice none 0 0) [] := World.ownsRow_nil _ _ _ _
theorem OwnP.nil (T : TypeId) (w : World) (base : Nat) : OwnP T w base (.slice none 0 0) [] := World.ownsRow_nil _ _ _ _
theorem one_new (w : World) (v : Value) (T : TypeId) : ∀ j u, [v][j]? = some u → (w.alloc (.cells #[v] T)).cell? ((⟨w.heap.size, 0, none⟩ : Addr).add j) = some u := by
  intro j u h
  match j, h with
  | 0, h => simp at h; subst h; simp [Addr.add, go_sem]
  | j + 1, h => simp at h
theorem one_cell (k : IntKind) (x : Int) : ∀ u ∈ [Value.int k x], u.oneCell' = true := by
  intro u h; simp at h; subst h; rfl
theorem addr_add' (b i j : Nat) : (⟨b, i, none⟩ : Addr).add j = ⟨b, i + j, none⟩ := by
  unfold Addr.add; split <;> simp_all
theorem newp (T : TypeId) (w : World) (p : P2) : ∀ j u, (pc p)[j]? = some u → (w.alloc (.cells #[.int .i64 p.1, .int .i64 p.2] T)).cell? ((⟨w.heap.size, 0, none⟩ : Addr).add j) = some u := fun j u h => by
  rw [addr_add', cellH (heap_new w _), ← h, Nat.zero_add]
  match j with
  | 0 => rfl
  | 1 => rfl
  | j + 2 => simp [pc]
theorem onep (p : P2) : ∀ u ∈ pc p, u.oneCell' = true := fun u hu => by
  simp only [pc, List.mem_cons, List.not_mem_nil, or_false] at hu
  rcases hu with rfl | rfl <;> rfl
end Go.Proofs.Ytggoajpemffbiaa
