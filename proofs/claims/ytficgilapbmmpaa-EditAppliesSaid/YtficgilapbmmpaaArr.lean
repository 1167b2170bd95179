/-
  A row of edits in a block of its own, and what stores into it make of it.
-/
import Derived.Test.YtficgilapbmmpaaCmp
import Derived.Lib.Builder
import Derived.BigRegion
import Derived.IntWalk
import Derived.Laws.AppendOwn
namespace Go.Proofs.Ytficgilapbmmpaa
open Go.RowKit
set_option linter.unusedVariables false

/-- A row of edits in a block of its own. -/
def Arr (w : World) (g : Nat) (d : List Ed) : Prop := ∃ cur : Array Value, w.heap[g]? = some (Obj.cells cur 55 (0, 0)) ∧ d.length * 3 ≤ cur.size ∧ EditsAt w g 0 d

theorem Arr.lt {w : World} {g : Nat} {d : List Ed} (h : Arr w g d) : g < w.heap.size := by
  obtain ⟨cur, hg, _⟩ := h
  exact (Array.getElem?_eq_some_iff.1 hg).1
theorem Arr.frozen {w : World} {g : Nat} {d : List Ed} (h : Arr w g d) (o : Nat) : w.frozen? ⟨g, o, none⟩ = false := by
  obtain ⟨cur, hg, _⟩ := h
  exact Lib.frozen_of_heap hg o
theorem Arr.at {w : World} {g : Nat} {d : List Ed} (h : Arr w g d) (i : Nat) (x : Ed) (hx : d[i]? = some x) : w.cell? ⟨g, i * 3, none⟩ = some (.int .i64 x.a) ∧ w.cell? ⟨g, i * 3 + 1, none⟩ = some (.int .i64 x.e) ∧ w.cell? ⟨g, i * 3 + 2, none⟩ = some (.string x.t) := by
  obtain ⟨cur, hg, _, hat⟩ := h
  obtain ⟨hi, rfl⟩ := List.getElem?_eq_some_iff.1 hx
  have := hat i hi
  simpa only [Nat.zero_add] using this

theorem heap_set {w : World} {g : Nat} {cur : Array Value} {T : TypeId} (h : w.heap[g]? = some (Obj.cells cur T (0, 0))) (o : Nat) (u : Value) : ∃ cur', (w.setCell ⟨g, o, none⟩ u).heap[g]? = some (Obj.cells cur' T (0, 0)) ∧ cur'.size = cur.size := by
  simp [World.setCell, Array.getElem?_modify, h]

def put3 (w : World) (g i : Nat) (x : Ed) : World := ((w.setCell ⟨g, i * 3, none⟩ (.int .i64 x.a)).setCell ⟨g, i * 3 + 1, none⟩ (.int .i64 x.e)).setCell ⟨g, i * 3 + 2, none⟩ (.string x.t)

theorem cell_set {w : World} {g o o' : Nat} {u v : Value} (h : w.cell? ⟨g, o', none⟩ = some v) (hne : o ≠ o') : (w.setCell ⟨g, o, none⟩ u).cell? ⟨g, o', none⟩ = some v :=
  (World.cell?_setCell_other w ⟨g, o, none⟩ ⟨g, o', none⟩ u (fun e => hne (by injection e))).trans h
theorem cell_put {w : World} {g o : Nat} {u v : Value} (h : w.cell? ⟨g, o, none⟩ = some v) : (w.setCell ⟨g, o, none⟩ u).cell? ⟨g, o, none⟩ = some u := World.cell?_setCell_same _ _ _ h

theorem Arr.put {w : World} {g : Nat} {d : List Ed} (h : Arr w g d) (i : Nat) (hi : i < d.length) (x : Ed) : Arr (put3 w g i x) g (d.set i x) := by
  have hall := h
  obtain ⟨cur, hg, hsz, hat⟩ := h
  obtain ⟨c1, h1, s1⟩ := heap_set hg (i * 3) (.int .i64 x.a)
  obtain ⟨c2, h2, s2⟩ := heap_set h1 (i * 3 + 1) (.int .i64 x.e)
  obtain ⟨c3, h3, s3⟩ := heap_set h2 (i * 3 + 2) (.string x.t)
  refine ⟨c3, h3, by simp; omega, fun j hj => ?_⟩
  have hj' : j < d.length := by simpa using hj
  obtain ⟨e0, e1, e2⟩ := hall.at j d[j] (by simp [hj'])
  simp only [Nat.zero_add]
  by_cases hij : i = j
  · subst hij
    simp only [List.getElem_set_self]
    refine ⟨cell_set (cell_set (cell_put e0) (by omega)) (by omega), cell_set (cell_put (cell_set e1 (by omega))) (by omega), cell_put (cell_set (cell_set e2 (by omega)) (by omega))⟩
  · rw [List.getElem_set_ne hij]
    refine ⟨cell_set (cell_set (cell_set e0 (by omega)) (by omega)) (by omega), cell_set (cell_set (cell_set e1 (by omega)) (by omega)) (by omega), cell_set (cell_set (cell_set e2 (by omega)) (by omega)) (by omega)⟩

theorem grown_set (w : World) (g o : Nat) (u : Value) : w.grownBy (w.setCell ⟨g, o, none⟩ u) (some g) :=
  ⟨rfl, rfl, rfl, by simp [World.setCell], fun k _ hk => Below.heap_setCell _ _ _ _ (fun e => hk (by simp [e]))⟩
theorem grown_trans {w w1 w2 : World} {r : Option Nat} (h : w.grownBy w1 r) (k : w1.grownBy w2 r) : w.grownBy w2 r :=
  ⟨k.os.trans h.os, k.tape.trans h.tape, k.output.trans h.output, Nat.le_trans h.size k.size, fun j hj hn => (k.block j (Nat.lt_of_lt_of_le hj h.size) hn).trans (h.block j hj hn)⟩
theorem grown_put (w : World) (g i : Nat) (x : Ed) : w.grownBy (put3 w g i x) (some g) := grown_trans (grown_trans (grown_set w g _ _) (grown_set _ g _ _)) (grown_set _ g _ _)
theorem grown_below {w w1 : World} (h : Below w.heap.size w w1) (r : Option Nat) : w.grownBy w1 r := ⟨h.os, h.tape, h.output, h.size, fun j hj _ => h.block j hj⟩
theorem grown_same (w : World) (r : Option Nat) : w.grownBy w r := ⟨rfl, rfl, rfl, Nat.le_refl _, fun _ _ _ => rfl⟩
theorem Arr.step {w w1 : World} {g : Nat} {d : List Ed} (h : Arr w g d) (hb : Below w.heap.size w w1) : Arr w1 g d := by
  obtain ⟨cur, hg, hsz, hat⟩ := h
  have hlt := (Array.getElem?_eq_some_iff.1 hg).1
  exact ⟨cur, (hb.block g hlt).trans hg, hsz, hat.step hlt hb⟩
theorem Arr.drew {w : World} {g : Nat} {d : List Ed} (h : Arr w g d) : Arr w.drew g d := h

theorem set_at {α : Type} (y : α) (x : α) (B : List α) : ∀ A : List α, (A ++ x :: B).set A.length y = A ++ y :: B
  | [] => rfl
  | a :: r => by
    have := set_at y x B r
    simp only [List.cons_append, List.length_cons, List.set_cons_succ, this]
theorem get_at {α : Type} (x : α) (B : List α) (A : List α) (i : Nat) (h : A.length = i) : (A ++ x :: B)[i]? = some x := by
  subst h; simp
theorem set_at' {α : Type} (y : α) (x : α) (B A : List α) (i : Nat) (h : A.length = i) : (A ++ x :: B).set i y = A ++ y :: B := by
  subst h; exact set_at y x B A
end Go.Proofs.Ytficgilapbmmpaa
