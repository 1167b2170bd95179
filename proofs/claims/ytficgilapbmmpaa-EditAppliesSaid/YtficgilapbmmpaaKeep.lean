/-
  Kept's closure: a stretch that has a byte is put behind the others, and where it begins then.
-/
import Derived.Test.YtficgilapbmmpaaSegs
import Derived.Test.YtficgilapbmmpaaPart
import Derived.Deep.AppendLies
import Derived.Laws.OwnMore
import Derived.Lib.Builder
import Derived.IntWalk
namespace Go.Proofs.Ytficgilapbmmpaa
open Go.RowKit
set_option linter.unusedVariables false

def pairCells : List (Int × Int) → List Value
  | [] => []
  | x :: r => .int .i64 x.1 :: .int .i64 x.2 :: pairCells r
theorem pairCells_append (a b : List (Int × Int)) : pairCells (a ++ b) = pairCells a ++ pairCells b := by
  induction a with
  | nil => rfl
  | cons x r ih => simp [pairCells, ih]
def intCells (l : List Int) : List Value := l.map fun x => .int .i64 x

theorem info53 : (Try.prog.info? 53).map (fun i => (i.zero, i.size, i.bytes)) = some (some (.agg #[.int .i64 0, .int .i64 0]), 2, 16) := by kernel_rfl
theorem info3 : (Try.prog.info? 3).map (fun i => (i.zero, i.size, i.bytes)) = some (some (.int .i64 0), 1, 8) := by kernel_rfl

/-- Kept's four variables, in blocks of their own behind w1, and what they hold. -/
structure Keeping (w1 wr : World) (v1 v2 : Value) (ps : List (Int × Int)) (bs : List Int) (a sh : Int) : Prop where
  st : wr.heap[w1.heap.size]? = some (.cells #[v1] 37 (0, 0))
  be : wr.heap[w1.heap.size + 1]? = some (.cells #[v2] 38 (0, 0))
  ca : wr.heap[w1.heap.size + 2]? = some (.cells #[.int .i64 a] 3 (0, 0))
  cs : wr.heap[w1.heap.size + 3]? = some (.cells #[.int .i64 sh] 3 (0, 0))
  own1 : wr.ownsRow (w1.heap.size + 4) 53 2 v1 ps.length (pairCells ps)
  own2 : wr.ownsRow (w1.heap.size + 4) 3 1 v2 bs.length (intCells bs)
  below : Below w1.heap.size w1 wr

/-- Blocks of edits stay. -/
def EdsKept (w w' : World) : Prop := ∀ (k : Nat) (cs : Array Value), w.heap[k]? = some (Obj.cells cs 55 (0, 0)) → w'.heap[k]? = some (Obj.cells cs 55 (0, 0))

theorem ownsRow_low {w : World} {base : Nat} {e : TypeId} {size : Nat} {v : Value} {n : Nat} {xs : List Value} (h : w.ownsRow base e size v n xs) {b o : Nat} (hb : b < base) (u : Value) : (w.setCell ⟨b, o, none⟩ u).ownsRow base e size v n xs := by
  refine h.kept (row := some b) ⟨rfl, rfl, rfl, by simp [World.setCell], fun k _ hk => Below.heap_setCell _ _ _ _ (fun e => hk (by simp [e]))⟩ ?_
  cases hv : v.ownBlock with
  | none => exact .inl rfl
  | some g => exact .inr (fun e => by have := (h.lt g hv).1; simp only [Option.some.injEq] at e; omega)
theorem ownsRow_far {w : World} {base : Nat} {e e' : TypeId} {size : Nat} {v : Value} {n : Nat} {xs : List Value} (h : w.ownsRow base e size v n xs) (he : e ≠ e') {k : Nat} {cs : Array Value} (hk : w.heap[k]? = some (Obj.cells cs e' (0, 0))) : v.ownBlock ≠ some k := by
  intro g
  rcases h.2 with ⟨rfl, _⟩ | ⟨g', cap, cur, rfl, _, hg, _⟩
  · simp [Value.ownBlock] at g
  · simp only [Value.ownBlock, Option.some.injEq] at g
    subst g
    rw [hk] at hg
    simp only [Option.some.injEq, Obj.cells.injEq] at hg
    exact he hg.2.1.symm
theorem ownsRow_below_far {w : World} {base : Nat} {e : TypeId} {size : Nat} {v : Value} {n : Nat} {xs : List Value} (h : w.ownsRow base e size v n xs) {k : Nat} (hk : k < base) : v.ownBlock ≠ some k := fun g => by
  have := (h.lt k g).1; omega
theorem rows_apart {w : World} {base base' : Nat} {e e' : TypeId} {size size' : Nat} {v v' : Value} {n n' : Nat} {xs xs' : List Value} (h : w.ownsRow base e size v n xs) (h' : w.ownsRow base' e' size' v' n' xs') (he : e ≠ e') : v'.ownBlock = none ∨ v'.ownBlock ≠ v.ownBlock := by
  rcases h'.2 with ⟨rfl, _⟩ | ⟨g', cap, cur, rfl, _, hg, _⟩
  · exact .inl rfl
  · right
    intro g
    exact ownsRow_far h he hg g.symm
theorem heap_set_same {w : World} {b : Nat} {T : TypeId} {x : Value} (h : w.heap[b]? = some (Obj.cells #[x] T (0, 0))) (u : Value) : (w.setCell ⟨b, 0, none⟩ u).heap[b]? = some (Obj.cells #[u] T (0, 0)) := by
  simp [World.setCell, Array.getElem?_modify, h]
theorem heap_set_other {w : World} {b k : Nat} (h : k ≠ b) (o : Nat) (u : Value) : (w.setCell ⟨b, o, none⟩ u).heap[k]? = w.heap[k]? := Below.heap_setCell _ _ _ _ (fun e => h (by simpa using e))

theorem keep_no (w1 wr : World) (v1 v2 : Value) (ps : List (Int × Int)) (bs : List Int) (a sh e : Int) (K : Keeping w1 wr v1 v2 ps bs a sh) (h : ¬ a < e) :
    Calls Try.prog 37 #[.int .i64 e, .pointer (some ⟨w1.heap.size + 2, 0, none⟩), .pointer (some ⟨w1.heap.size, 0, none⟩), .pointer (some ⟨w1.heap.size + 1, 0, none⟩), .pointer (some ⟨w1.heap.size + 3, 0, none⟩)] wr fun r w' => r = .returned (.tuple #[]) ∧ wr = w' := by
  have c0 : wr.cell? ⟨w1.heap.size + 2, 0, none⟩ = some (.int .i64 a) := by rw [Lib.cell_of_heap K.ca]; rfl
  go_enter Try.func37, Try.ntmps37
  go_wp2
  go_end0
  exact ⟨rfl, rfl⟩

set_option maxHeartbeats 1000000 in
theorem keep_yes (w1 wr : World) (v1 v2 : Value) (ps : List (Int × Int)) (bs : List Int) (a sh e : Int) (K : Keeping w1 wr v1 v2 ps bs a sh) (h : a < e) (hp : ps.length ≤ 1000) (hb : bs.length ≤ 1000) (a0 : 0 ≤ a) (a1 : a ≤ 1000000) (s0 : -1000000 ≤ sh) (s1 : sh ≤ 1000000) :
    Calls Try.prog 37 #[.int .i64 e, .pointer (some ⟨w1.heap.size + 2, 0, none⟩), .pointer (some ⟨w1.heap.size, 0, none⟩), .pointer (some ⟨w1.heap.size + 1, 0, none⟩), .pointer (some ⟨w1.heap.size + 3, 0, none⟩)] wr fun r w' => r = .returned (.tuple #[]) ∧ ∃ v1' v2', Keeping w1 w' v1' v2' (ps ++ [(a, e)]) (bs ++ [a + sh]) a sh ∧ EdsKept wr w' := by
  obtain ⟨i0, hi0, hy0, hy1, hy2⟩ := info_parts info53
  obtain ⟨j0, hj0, hx0, hx1, hx2⟩ := info_parts info3
  obtain ⟨st, be, ca, cs, own1, own2, below⟩ := K
  have c0 : wr.cell? ⟨w1.heap.size + 2, 0, none⟩ = some (.int .i64 a) := by rw [Lib.cell_of_heap ca]; rfl
  have c1 : wr.cell? ⟨w1.heap.size, 0, none⟩ = some v1 := by rw [Lib.cell_of_heap st]; rfl
  have l0 : w1.heap.size + 3 < wr.heap.size := (Array.getElem?_eq_some_iff.1 cs).1
  have ST := Lib.hid st
  have BE := Lib.hid be
  have CA := Lib.hid ca
  have CS := Lib.hid cs
  clear st be ca cs
  go_enter Try.func37, Try.ntmps37
  go_wp2_with (at_builtin; refine wpList_append_lies _ rfl (.tmp 9) (.tmp 13) 37 rfl (w1.heap.size + 4) 53 i0 (.agg #[.int .i64 0, .int .i64 0]) 2 16 Try.underlying37 hi0 hy0 hy1 hy2 rfl (by omega) v1 ps.length (pairCells ps) rfl (own1.alloc _) ⟨wr.heap.size, 0, none⟩ 1 1 [.int .i64 a, .int .i64 e] rfl rfl (World.news_of_block (cs := #[.int .i64 a, .int .i64 e]) (t := 53) (fr := (0, 0)) (heap_alloc_new wr _)) (by simp [Value.oneCell']) (by omega) (by unfold maxLen; omega) (by omega) (by simp; omega) (wr.heap.size + 1) (by simp) ?_)
  intro g1 cap1 w2 hown1 hg1 hat1 hlt1
  have n1 := ownsRow_below_far own1 (k := w1.heap.size) (by omega)
  have n2 := ownsRow_below_far own1 (k := w1.heap.size + 1) (by omega)
  have n3 := ownsRow_below_far own1 (k := w1.heap.size + 2) (by omega)
  have n4 := ownsRow_below_far own1 (k := w1.heap.size + 3) (by omega)
  have far : ∀ k, k < wr.heap.size → v1.ownBlock ≠ some k → w2.heap[k]? = wr.heap[k]? := fun k hk hn => by
    rw [hg1.block k (by simp; omega) (Ne.symm hn), heap_alloc_old _ _ hk]
  have b1 : w2.heap[w1.heap.size]? = some (Obj.cells #[v1] 37 (0, 0)) := (far _ (by omega) n1).trans ST.out
  have b2 : w2.heap[w1.heap.size + 1]? = some (Obj.cells #[v2] 38 (0, 0)) := (far _ (by omega) n2).trans BE.out
  have b3 : w2.heap[w1.heap.size + 2]? = some (Obj.cells #[.int .i64 a] 3 (0, 0)) := (far _ (by omega) n3).trans CA.out
  have b4 : w2.heap[w1.heap.size + 3]? = some (Obj.cells #[.int .i64 sh] 3 (0, 0)) := (far _ (by omega) n4).trans CS.out
  have d1 : w2.cell? ⟨w1.heap.size, 0, none⟩ = some v1 := by rw [Lib.cell_of_heap b1]; rfl
  have d2 : w2.cell? ⟨w1.heap.size + 1, 0, none⟩ = some v2 := by rw [Lib.cell_of_heap b2]; rfl
  have d3 : w2.cell? ⟨w1.heap.size + 2, 0, none⟩ = some (.int .i64 a) := by rw [Lib.cell_of_heap b3]; rfl
  have d4 : w2.cell? ⟨w1.heap.size + 3, 0, none⟩ = some (.int .i64 sh) := by rw [Lib.cell_of_heap b4]; rfl
  have f1 : w2.frozen? ⟨w1.heap.size, 0, none⟩ = false := Lib.frozen_of_heap b1 0
  have own2' : w2.ownsRow (w1.heap.size + 4) 3 1 v2 bs.length (intCells bs) := (own2.alloc _).kept hg1 (rows_apart own1 own2 (by decide))
  have hz2 : wr.heap.size < w2.heap.size := by have := hg1.size; simp at this; omega
  have EK : EdsKept wr w2 := fun k cs hk => (far k (Array.getElem?_eq_some_iff.1 hk).1 (ownsRow_far own1 (by decide) hk)).trans hk
  have below2 : Below w1.heap.size w1 w2 := (below.alloc (by omega) _).grown hg1 (by simp; omega) (fun k hk => by have := (own1.lt k hk).1; omega)
  have B1 := Lib.hid b1
  have B2 := Lib.hid b2
  have B3 := Lib.hid b3
  have B4 := Lib.hid b4
  have FAR := Lib.hid far
  have EKH := Lib.hid EK
  have HO1 := Lib.hid hown1
  clear b1 b2 b3 b4 far EK hown1 n1 n2 n3 n4 c0 c1 hg1 hat1 own1 own2
  have hs0 : -2000000 ≤ a + sh := by omega
  have hs1 : a + sh ≤ 2000000 := by omega
  go_wp2_with (at_builtin; refine wpList_append_lies _ rfl (.tmp 15) (.tmp 19) 38 rfl (w1.heap.size + 4) 3 j0 (.int .i64 0) 1 8 Try.underlying38 hj0 hx0 hx1 hx2 rfl (by omega) v2 bs.length (intCells bs) rfl ((ownsRow_low own2' (by omega) _).alloc _) ⟨w2.heap.size, 0, none⟩ 1 1 [.int .i64 (a + sh)] rfl rfl (World.news_of_block (cs := #[.int .i64 (a + sh)]) (t := 3) (fr := (0, 0)) (by have := heap_alloc_new (w2.setCell ⟨w1.heap.size, 0, none⟩ (.slice (some ⟨g1, 0, none⟩) (ps.length + 1) cap1)) (.cells #[.int .i64 (a + sh)] 3); simpa using this)) (by simp [Value.oneCell']) (by omega) (by unfold maxLen; omega) (by omega) (by simp; omega) (w2.heap.size + 1) (by simp) ?_)
  intro g2 cap2 w4 hown2 hg2 hat2 hlt2
  have q1 := ownsRow_below_far own2' (k := w1.heap.size) (by omega)
  have q2 := ownsRow_below_far own2' (k := w1.heap.size + 1) (by omega)
  have q3 := ownsRow_below_far own2' (k := w1.heap.size + 2) (by omega)
  have q4 := ownsRow_below_far own2' (k := w1.heap.size + 3) (by omega)
  have far2 : ∀ k, k < w2.heap.size → v2.ownBlock ≠ some k → k ≠ w1.heap.size → w4.heap[k]? = w2.heap[k]? := fun k hk hn hks => by
    rw [hg2.block k (by simp; omega) (Ne.symm hn), heap_alloc_old _ _ (by simpa using hk), heap_set_other hks]
  have s1' : w4.heap[w1.heap.size]? = some (Obj.cells #[.slice (some ⟨g1, 0, none⟩) (ps.length + 1) cap1] 37 (0, 0)) := by
    rw [hg2.block _ (by simp; omega) (Ne.symm q1), heap_alloc_old _ _ (by simp; omega)]
    exact heap_set_same B1.out _
  have s2' : w4.heap[w1.heap.size + 1]? = some (Obj.cells #[v2] 38 (0, 0)) := (far2 _ (by omega) q2 (by omega)).trans B2.out
  have s3' : w4.heap[w1.heap.size + 2]? = some (Obj.cells #[.int .i64 a] 3 (0, 0)) := (far2 _ (by omega) q3 (by omega)).trans B3.out
  have s4' : w4.heap[w1.heap.size + 3]? = some (Obj.cells #[.int .i64 sh] 3 (0, 0)) := (far2 _ (by omega) q4 (by omega)).trans B4.out
  have hz4 : w2.heap.size < w4.heap.size := by have := hg2.size; simp at this; omega
  have own1' : w4.ownsRow (w1.heap.size + 4) 53 2 (.slice (some ⟨g1, 0, none⟩) (ps.length + 1) cap1) (ps.length + 1) (pairCells ps ++ [.int .i64 a, .int .i64 e]) :=
    ((ownsRow_low HO1.out (by omega) _).alloc _).kept hg2 (rows_apart own2' HO1.out (by decide))
  have below4 : Below w1.heap.size w1 w4 := ((below2.setCell (p := ⟨w1.heap.size, 0, none⟩) (Nat.le_refl _) _).alloc (by simp; omega) _).grown hg2 (by simp; omega) (fun k hk => by have := (own2'.lt k hk).1; omega)
  have EK4 : EdsKept wr w4 := fun k cs hk => by
    have h2 := EKH.out k cs hk
    rw [far2 k (Array.getElem?_eq_some_iff.1 h2).1 (ownsRow_far own2' (by decide) h2) (fun e => by subst e; rw [ST.out] at hk; simp only [Option.some.injEq, Obj.cells.injEq] at hk; exact absurd hk.2.1 (by decide))]
    exact h2
  have r2 : w4.cell? ⟨w1.heap.size + 1, 0, none⟩ = some v2 := by rw [Lib.cell_of_heap s2']; rfl
  have z2 : w4.frozen? ⟨w1.heap.size + 1, 0, none⟩ = false := Lib.frozen_of_heap s2' 0
  have fin : ∃ v1' v2', Keeping w1 (w4.setCell ⟨w1.heap.size + 1, 0, none⟩ (.slice (some ⟨g2, 0, none⟩) (bs.length + 1) cap2)) v1' v2' (ps ++ [(a, e)]) (bs ++ [a + sh]) a sh ∧ EdsKept wr (w4.setCell ⟨w1.heap.size + 1, 0, none⟩ (.slice (some ⟨g2, 0, none⟩) (bs.length + 1) cap2)) := by
    refine ⟨.slice (some ⟨g1, 0, none⟩) (ps.length + 1) cap1, .slice (some ⟨g2, 0, none⟩) (bs.length + 1) cap2, ⟨?_, ?_, ?_, ?_, ?_, ?_, ?_⟩, ?_⟩
    · rw [heap_set_other (by omega)]; exact s1'
    · exact heap_set_same s2' _
    · rw [heap_set_other (by omega)]; exact s3'
    · rw [heap_set_other (by omega)]; exact s4'
    · rw [List.length_append, pairCells_append]; exact ownsRow_low own1' (by omega) _
    · rw [List.length_append, show intCells (bs ++ [a + sh]) = intCells bs ++ [.int .i64 (a + sh)] from by simp [intCells]]; exact ownsRow_low hown2 (by omega) _
    · exact below4.setCell (p := ⟨w1.heap.size + 1, 0, none⟩) (by simp) _
    · intro k cs hk
      rw [heap_set_other (fun e => by subst e; rw [BE.out] at hk; simp only [Option.some.injEq, Obj.cells.injEq] at hk; exact absurd hk.2.1 (by decide))]
      exact EK4 k cs hk
  have FIN := Lib.hid fin
  clear fin EK4 below4 own1' s1' s2' s3' s4' far2 q1 q2 q3 q4 hg2 hat2 hown2
  go_wp2
  go_end0
  exact ⟨rfl, FIN.out⟩
end Go.Proofs.Ytficgilapbmmpaa
