/-
  Rows of tokens as they lie; kinds, Ints, No.
-/
import Derived.Test.YtkjgkchdkeggoaaGreatDoorFirst
namespace Go.Proofs.YtkjgkchdkeggoaaGreatDoor
open Go.RowKit
set_option maxRecDepth 20000
set_option linter.unusedVariables false
set_option linter.unusedSimpArgs false

theorem cellsT_length (l : List Tok) : (cellsT l).length = l.length * 3 := by
  induction l with
  | nil => rfl
  | cons x r ih => simp [cellsT, ih]; omega
theorem cellsT_at (l : List Tok) (i : Nat) (h : i < l.length) : (cellsT l)[i * 3]? = some (.int .i64 l[i].k) ∧ (cellsT l)[i * 3 + 1]? = some (.int .i64 (l[i].a : Int)) ∧ (cellsT l)[i * 3 + 2]? = some (.int .i64 (l[i].e : Int)) := by
  induction l generalizing i with
  | nil => simp at h
  | cons x r ih =>
    cases i with
    | zero => simp [cellsT]
    | succ i =>
      have := ih i (by simpa using h)
      simp only [cellsT, show (i + 1) * 3 = i * 3 + 3 from by omega, show i * 3 + 3 + 1 = (i * 3 + 1) + 3 from by omega, show i * 3 + 3 + 2 = (i * 3 + 2) + 3 from by omega, List.getElem?_cons_succ, List.getElem_cons_succ]
      exact this
/-- Tokens lie one behind the other in a block. -/
def TokCells (w : World) (g : Nat) (l : List Tok) : Prop :=
  ∀ i, (h : i < l.length) → w.cell? ⟨g, i * 3, none⟩ = some (.int .i64 l[i].k) ∧ w.cell? ⟨g, i * 3 + 1, none⟩ = some (.int .i64 (l[i].a : Int)) ∧ w.cell? ⟨g, i * 3 + 2, none⟩ = some (.int .i64 (l[i].e : Int))
theorem TokCells.step {w w1 : World} {g : Nat} {l : List Tok} (h : TokCells w g l) (hb : g < w.heap.size) (hw : Below w.heap.size w w1) : TokCells w1 g l := fun i hi => by
  obtain ⟨h0, h1, h2⟩ := h i hi
  exact ⟨(hw.cell (p := ⟨g, _, none⟩) hb).trans h0, (hw.cell (p := ⟨g, _, none⟩) hb).trans h1, (hw.cell (p := ⟨g, _, none⟩) hb).trans h2⟩
theorem ToksAt.open {w : World} {v : Value} {l : List Tok} (h : ToksAt w v l) (hl : 0 < l.length) : ∃ g c, v = .slice (some ⟨g, 0, none⟩) l.length c ∧ l.length ≤ c ∧ c ≤ maxLen ∧ g < w.heap.size ∧ TokCells w g l := by
  obtain ⟨base, h⟩ := h
  rcases h.2 with ⟨_, h0⟩ | ⟨g, cap, cur, rfl, hg, hh, hc, hm, hs, ht⟩
  · omega
  · refine ⟨g, cap, rfl, hc, hm, lt_of_block hh, fun i hi => ?_⟩
    have hx := cellsT_at l i hi
    have e := fun j (hj : j < l.length * 3) => h.cellAt j hj
    exact ⟨(e _ (by omega)).trans hx.1, (e _ (by omega)).trans hx.2.1, (e _ (by omega)).trans hx.2.2⟩
theorem no_any (x : Int) (w : World) : Calls Tryz.prog 9 #[.int .i64 x] w fun e w' => e = .returned (.int .i64 x) ∧ w = w' := by
  go_enter Tryz.func9, Tryz.ntmps9
  go_wp2
  go_ret
  exact ⟨rfl, rfl⟩
theorem info3 : (Tryz.prog.info? 3).map (fun i => (i.zero, i.size, i.bytes)) = some (some (.int .i64 0), 1, 8) := by kernel_rfl
def kindCells (l : List Tok) : List Value := l.map fun t => .int .i64 t.k
/-- Numbers lie one behind the other in a block. -/
def IntCells (w : World) (g : Nat) (l : List Int) : Prop := ∀ i, (h : i < l.length) → w.cell? ⟨g, i, none⟩ = some (.int .i64 l[i])
end Go.Proofs.YtkjgkchdkeggoaaGreatDoor
