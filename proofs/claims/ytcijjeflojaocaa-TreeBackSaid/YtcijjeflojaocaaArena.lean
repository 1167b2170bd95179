/-
  The arena as it lies: nodes of nine cells, names in rows of their own; what a store to one of its cells leaves.
-/
import Derived.Test.YtcijjeflojaocaaRowed
import Derived.Laws.Rows
namespace Go.Proofs.Ytcijjeflojaocaa
open Go.RowKit
set_option linter.unusedVariables false
set_option linter.unusedSimpArgs false

/-- A node's numbers and names. -/
structure Kn where
  k : Int
  m : Int
  f : Int
  t : Int
  up : Int
  first : Int
  next : Int
  deep : Int
  ns : List Int
/-- The node that is laid of an entry. -/
def Ent.kn (e : Ent) : Kn := ⟨e.b.h.k, e.b.h.m, e.b.h.f, e.b.h.t, e.up, firstOf e.b e.pos, e.next, e.deep, e.b.h.ns⟩
/-- A node, and where its names lie. -/
structure Nd where
  x : Kn
  p : Option Addr
  n : Nat
  c : Nat
def Nd.cells (d : Nd) : List Value := [.int .i64 d.x.k, .int .i64 d.x.m, .int .i64 d.x.f, .int .i64 d.x.t, .int .i64 d.x.up, .int .i64 d.x.first, .int .i64 d.x.next, .slice d.p d.n d.c, .int .i64 d.x.deep]
def cellsN : List Nd → List Value
  | [] => []
  | d :: r => d.cells ++ cellsN r
theorem cellsN_append (a b : List Nd) : cellsN (a ++ b) = cellsN a ++ cellsN b := by
  induction a with
  | nil => rfl
  | cons x r ih => simp [cellsN, ih]
theorem cellsN_length (l : List Nd) : (cellsN l).length = l.length * 9 := by
  induction l with
  | nil => rfl
  | cons x r ih => simp [cellsN, Nd.cells, ih]; omega
theorem cellsN_at (l : List Nd) (i j : Nat) (h : i < l.length) (hj : j < 9) : (cellsN l)[i * 9 + j]? = l[i].cells[j]? := by
  induction l generalizing i with
  | nil => simp at h
  | cons x r ih =>
    have hx : x.cells.length = 9 := rfl
    simp only [cellsN]
    cases i with
    | zero => rw [List.getElem?_append_left (by omega)]; simp
    | succ i =>
      rw [List.getElem?_append_right (by omega), hx, show (i + 1) * 9 + j - 9 = i * 9 + j by omega]
      exact ih i (by simpa using h)
theorem cellsN_set (l : List Nd) (i j : Nat) (d : Nd) (v : Value) (h : i < l.length) (hj : j < 9) (hd : d.cells = l[i].cells.set j v) : cellsN (l.set i d) = (cellsN l).set (i * 9 + j) v := by
  induction l generalizing i with
  | nil => simp at h
  | cons x r ih =>
    have hx : x.cells.length = 9 := rfl
    cases i with
    | zero =>
      simp only [List.set_cons_zero, cellsN, Nat.zero_mul, Nat.zero_add]
      rw [List.set_append_left _ _ (by omega), hd]; rfl
    | succ i =>
      simp only [List.set_cons_succ, cellsN]
      rw [List.set_append_right _ _ (by omega), hx, show (i + 1) * 9 + j - 9 = i * 9 + j by omega, ih i (by simpa using h) (by simpa using hd)]

/-- A row of one's own, one cell of which is written. -/
theorem own_set {w : World} {base E size n g c : Nat} {xs : List Value} (h : w.ownsRow base E size (.slice (some ⟨g, 0, none⟩) n c) n xs) (o : Nat) (u : Value) (ho : o < n * size) :
    (w.setCell ⟨g, o, none⟩ u).ownsRow base E size (.slice (some ⟨g, 0, none⟩) n c) n (xs.set o u) := by
  obtain ⟨hl, ⟨h0, _⟩ | ⟨g', c', cur, hv, hb, hh, hle, hm, hs, ht⟩⟩ := h
  · cases h0
  · simp only [Value.slice.injEq, Option.some.injEq, Addr.mk.injEq, and_true, true_and] at hv
    obtain ⟨rfl, rfl⟩ := hv
    refine ⟨by simpa using hl, .inr ⟨g, c, _, rfl, hb, heap_setCell_same w g o cur E u hh, hle, hm, ?_, ?_⟩⟩
    · simpa using hs
    · rw [← ht]
      simp [List.take_set]
theorem own_bound {w : World} {base E size n g c : Nat} {xs : List Value} (h : w.ownsRow base E size (.slice (some ⟨g, 0, none⟩) n c) n xs) : base ≤ g ∧ g < w.heap.size ∧ n ≤ c := by
  obtain ⟨hl, ⟨h0, _⟩ | ⟨g', c', cur, hv, hb, hh, hle, hm, hs, ht⟩⟩ := h
  · cases h0
  · simp only [Value.slice.injEq, Option.some.injEq, Addr.mk.injEq, and_true, true_and] at hv
    obtain ⟨rfl, rfl⟩ := hv
    exact ⟨hb, (Array.getElem?_eq_some_iff.1 hh).1, hle⟩
theorem own_cell {w : World} {base E size n g c : Nat} {xs : List Value} (h : w.ownsRow base E size (.slice (some ⟨g, 0, none⟩) n c) n xs) (j : Nat) (u : Value) (hj : xs[j]? = some u) : w.cell? ⟨g, j, none⟩ = some u := by
  have := own_news h j u hj
  have ha : ((⟨g, 0, none⟩ : Addr).add j) = ⟨g, j, none⟩ := by unfold Addr.add; split <;> simp_all
  rwa [ha] at this
theorem own_frozen {w : World} {base E size n g c : Nat} {xs : List Value} (h : w.ownsRow base E size (.slice (some ⟨g, 0, none⟩) n c) n xs) (j : Nat) : w.frozen? ⟨g, j, none⟩ = false := by
  obtain ⟨hl, ⟨h0, _⟩ | ⟨g', c', cur, hv, hb, hh, hle, hm, hs, ht⟩⟩ := h
  · cases h0
  · simp only [Value.slice.injEq, Option.some.injEq, Addr.mk.injEq, and_true, true_and] at hv
    obtain ⟨rfl, rfl⟩ := hv
    simp [World.frozen?, hh]

/-- Names of nodes lie apart from block g and block T. -/
def NamesAt (w : World) (T : Nat) (g : Option Nat) (l : List Nd) : Prop :=
  ∀ d ∈ l, In mkI w d.p d.n d.c d.x.ns ∧ (d.n = 0 ∨ ∃ a, d.p = some a ∧ a.block ≠ T ∧ g ≠ some a.block)

theorem in_kept {w w1 : World} {p : Option Addr} {n c : Nat} {l : List Int} (h : In mkI w p n c l) (hs : w.heap.size ≤ w1.heap.size) (hk : ∀ a, n ≠ 0 → p = some a → w1.heap[a.block]? = w.heap[a.block]?) : In mkI w1 p n c l := by
  obtain ⟨hn, h0 | ⟨b, off, rfl, hc, hb, hat⟩⟩ := h
  · exact ⟨hn, .inl h0⟩
  · by_cases hn0 : n = 0
    · exact ⟨hn, .inl hn0⟩
    · refine ⟨hn, .inr ⟨b, off, rfl, hc, by omega, fun i hi => ?_⟩⟩
      have := hat i hi
      have e := hk _ hn0 rfl
      rw [← this]
      simp only [World.cell?] at e ⊢
      rw [e]

/-- What the laying knows: the world it began in, where the tree's and its variables' cells lie, and the nodes that are laid. -/
structure St (wb : World) (B T Bt Bl : Nat) (w : World) (l : List Kn) : Prop where
  below : Below wb.heap.size wb w
  size : B ≤ w.heap.size
  bt : w.cell? ⟨Bt, 0, none⟩ = some (.pointer (some ⟨T, 0, none⟩))
  bl : w.cell? ⟨Bl, 0, none⟩ = some (.func (.func 31) #[] #[.pointer (some ⟨Bt, 0, none⟩), .pointer (some ⟨Bl, 0, none⟩)])
  arena : ∃ (d : List Nd) (v : Value), d.map Nd.x = l ∧ w.cell? ⟨T, 0, none⟩ = some v ∧ w.frozen? ⟨T, 0, none⟩ = false ∧ w.ownsRow B 58 9 v l.length (cellsN d) ∧ NamesAt w T v.ownBlock d
end Go.Proofs.Ytcijjeflojaocaa
