/-
  Right, Part, part and grown, of a span that lies in the text, and of an edit with small numbers.
-/
import Derived.Test.YtficgilapbmmpaaBase
import Derived.Test.YtficgilapbmmpaaShelf
namespace Go.Proofs.Ytficgilapbmmpaa
open Go.RowKit
set_option linter.unusedVariables false

theorem right_yes (s : ByteArray) (i j : Nat) (hs : s.size ≤ 1000000) (hi : i ≤ j) (hj : j ≤ s.size) (w : World) :
    Calls Try.prog 50 #[.string s, .agg #[.int .i64 i, .int .i64 j]] w fun e w' => e = .returned (.bool true) ∧ Below w.heap.size w w' := by
  go_enter Try.func50, Try.ntmps50
  go_wp2
  go_ret
  exact ⟨rfl, by go_grown⟩

theorem clone_any (s : ByteArray) (hs : s.size ≤ 1000000) (w : World) :
    Calls Try.prog 31 #[.string s] w fun e w' => e = .returned (.string s) ∧ Below w.heap.size w w' := by
  go_enter Try.func31, Try.ntmps31
  go_wp2_with fail
  refine (Try.stringslite_Clone s _ (by omega)).mono ?_
  rintro e w1 ⟨rfl, hb⟩
  go_wp2
  go_ret
  exact ⟨rfl, hb⟩

theorem textPart_yes (s : ByteArray) (i j : Nat) (hs : s.size ≤ 1000000) (hi : i ≤ j) (hj : j ≤ s.size) (w : World) :
    Calls Try.prog 46 #[.string s, .agg #[.int .i64 i, .int .i64 j]] w fun e w' => e = .returned (.tuple #[.string (s.extract i j), .int .i64 0]) ∧ Below w.heap.size w w' := by
  have hz : (s.extract i j).size ≤ 1000000 := by rw [ByteArray.size_extract]; omega
  go_enter Try.func46, Try.ntmps46
  go_wp2_with fail
  refine (right_yes s i j hs hi hj _).mono ?_
  rintro e w1 ⟨rfl, hb⟩
  have c0 := hb.cell (p := ⟨w.heap.size, 0, none⟩) (by simp)
  have c1 := hb.cell (p := ⟨w.heap.size, 1, none⟩) (by simp)
  have d0 : w1.cell? ⟨w.heap.size, 0, none⟩ = some (.int .i64 i) := c0.trans (by simp [go_sem])
  have d1 : w1.cell? ⟨w.heap.size, 1, none⟩ = some (.int .i64 j) := c1.trans (by simp [go_sem])
  clear c0 c1
  have hq := hb.size
  simp at hq
  go_wp2_with fail
  refine (clone_any _ hz _).mono ?_
  rintro e w2 ⟨rfl, hb2⟩
  go_wp2
  go_returns
  refine ⟨rfl, ?_⟩
  exact ((((Below.refl w.heap.size w).alloc (Nat.le_refl _) _).trans (hb.mono (by simp))).trans (hb2.mono (by omega)))

theorem part_yes (s : ByteArray) (i j : Nat) (hs : s.size ≤ 1000000) (hi : i ≤ j) (hj : j ≤ s.size) (w : World) :
    Calls Try.prog 39 #[.string s, .int .i64 i, .int .i64 j] w fun e w' => e = .returned (.string (s.extract i j)) ∧ Below w.heap.size w w' := by
  go_enter Try.func39, Try.ntmps39
  go_wp2_with fail
  refine (textPart_yes s i j hs hi hj _).mono ?_
  rintro e w1 ⟨rfl, hb⟩
  go_wp2
  go_ret
  exact ⟨rfl, hb⟩

theorem grown_any (a e : Int) (t : ByteArray) (ha : 0 ≤ a) (hae : a ≤ e) (he : e ≤ 1000000) (ht : t.size ≤ 1000000) (w : World) :
    Calls Try.prog 38 #[.agg #[.int .i64 a, .int .i64 e, .string t]] w fun r w' => r = .returned (.int .i64 (t.size - (e - a))) ∧ Below w.heap.size w w' := by
  go_enter Try.func38, Try.ntmps38
  go_wp2
  go_ret
  exact ⟨rfl, by go_grown⟩
end Go.Proofs.Ytficgilapbmmpaa
