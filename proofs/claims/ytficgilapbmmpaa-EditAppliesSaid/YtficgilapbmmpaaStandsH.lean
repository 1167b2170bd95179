/-
  What the walks of EditStands share.
-/
import Derived.Test.YtficgilapbmmpaaAlive
import Derived.Test.YtficgilapbmmpaaRowsOf
namespace Go.Proofs.Ytficgilapbmmpaa
open Go.RowKit
set_option linter.unusedVariables false

def PairsAt (w : World) (g : Nat) (R : List Str) : Prop := ∀ j, (h : j < R.length) → w.cell? ⟨g, j * 2, none⟩ = some (.int .i64 R[j].a) ∧ w.cell? ⟨g, j * 2 + 1, none⟩ = some (.int .i64 R[j].b)
def IntsAt (w : World) (g : Nat) (R : List Str) : Prop := ∀ j, (h : j < R.length) → w.cell? ⟨g, j, none⟩ = some (.int .i64 R[j].t)

theorem pairCells_at : ∀ (R : List Str) (j : Nat) (h : j < R.length), (pairCells (pairsOf R))[j * 2]? = some (.int .i64 R[j].a) ∧ (pairCells (pairsOf R))[j * 2 + 1]? = some (.int .i64 R[j].b)
  | [], j, h => absurd h (by simp)
  | x :: r, 0, _ => ⟨rfl, rfl⟩
  | x :: r, j + 1, h => by
    have := pairCells_at r j (by simpa using h)
    simp only [pairsOf, List.map_cons, pairCells, show (j + 1) * 2 = j * 2 + 1 + 1 from by omega, List.getElem?_cons_succ, List.getElem_cons_succ] at *
    exact this
theorem add_block (g j : Nat) : (⟨g, 0, none⟩ : Addr).add j = ⟨g, j, none⟩ := by unfold Addr.add; split <;> simp_all

theorem pairs_of_row {w : World} {base : Nat} {v : Value} {R : List Str} (h : w.ownsRow base 53 2 v (pairsOf R).length (pairCells (pairsOf R))) (hR : 0 < R.length) :
    ∃ g cap, v = .slice (some ⟨g, 0, none⟩) R.length cap ∧ R.length ≤ cap ∧ g < w.heap.size ∧ PairsAt w g R := by
  have hl : (pairsOf R).length = R.length := by simp [pairsOf]
  rw [hl] at h
  rcases h.2 with ⟨_, h0⟩ | ⟨g, cap, cur, hv, hg, hh, hle, _⟩
  · omega
  · refine ⟨g, cap, hv, hle, (Array.getElem?_eq_some_iff.1 hh).1, fun j hj => ?_⟩
    obtain ⟨e0, e1⟩ := pairCells_at R j hj
    have c0 := World.ownsRow.cells h (g := g) (by rw [hv]; rfl) _ _ e0
    have c1 := World.ownsRow.cells h (g := g) (by rw [hv]; rfl) _ _ e1
    rw [add_block] at c0 c1
    exact ⟨c0, c1⟩
theorem ints_of_row {w : World} {base : Nat} {v : Value} {R : List Str} (h : w.ownsRow base 3 1 v (placesOf R).length (intCells (placesOf R))) (hR : 0 < R.length) :
    ∃ g cap, v = .slice (some ⟨g, 0, none⟩) R.length cap ∧ R.length ≤ cap ∧ g < w.heap.size ∧ IntsAt w g R := by
  have hl : (placesOf R).length = R.length := by simp [placesOf]
  rw [hl] at h
  rcases h.2 with ⟨_, h0⟩ | ⟨g, cap, cur, hv, hg, hh, hle, _⟩
  · omega
  · refine ⟨g, cap, hv, hle, (Array.getElem?_eq_some_iff.1 hh).1, fun j hj => ?_⟩
    have e0 : (intCells (placesOf R))[j]? = some (.int .i64 R[j].t) := by simp [intCells, placesOf, hj]
    have c0 := World.ownsRow.cells h (g := g) (by rw [hv]; rfl) _ _ e0
    rw [add_block] at c0
    exact c0
theorem none_of_row {w : World} {base : Nat} {e : TypeId} {size : Nat} {v : Value} {xs : List Value} (h : w.ownsRow base e size v 0 xs) : ∃ p cap, v = .slice p 0 cap := by
  rcases h.2 with ⟨hv, _⟩ | ⟨g, cap, cur, hv, _⟩
  · exact ⟨_, _, hv⟩
  · exact ⟨_, _, hv⟩

theorem extract_eq (s t : ByteArray) (A B b c : Nat) (hc : c = b + (B - A)) (h : (s.data.toList.drop A).take (B - A) = (t.data.toList.drop b).take (B - A)) : t.extract b c = s.extract A B := by
  have h1 : (t.extract b c).data.toList = (s.extract A B).data.toList := by
    rw [Lib.extract_data, Lib.extract_data, h, hc, show b + (B - A) - b = B - A from by omega]
  exact ByteArray.ext (Array.toList_inj.1 h1)

/-- Texts' bytes of the first edits. -/
theorem bytes_take (l : List Ed) (k : Nat) (h : k < l.length) : bytes (l.take (k + 1)) = bytes (l.take k) + l[k].t.size := by
  have happ : ∀ a b : List Ed, bytes (a ++ b) = bytes a + bytes b := fun a b => by
    induction a with
    | nil => simp [bytes]
    | cons x r ih => simp [bytes, ih]; omega
  rw [List.take_succ_eq_append_getElem h, happ]; simp [bytes]
theorem bytes_take_le (l : List Ed) (k : Nat) : bytes (l.take k) ≤ bytes l := by
  induction l generalizing k with
  | nil => simp [bytes]
  | cons x r ih =>
    cases k with
    | zero => simp [bytes]
    | succ k => have := ih k; simp [bytes]; omega
theorem total_take_le (R : List Str) (j : Nat) : total (R.take j) ≤ total R := by
  induction R generalizing j with
  | nil => simp [total]
  | cons x r ih =>
    cases j with
    | zero => simp [total]
    | succ k => have := ih k; simp [total]; omega

theorem size_is (s : ByteArray) : s.data.toList.length = s.size := by rw [Array.length_toList]; rfl
theorem getD_at (R : List Str) (j : Nat) (h : j < R.length) : R.getD j default = R[j] := by simp [h]

end Go.Proofs.Ytficgilapbmmpaa
