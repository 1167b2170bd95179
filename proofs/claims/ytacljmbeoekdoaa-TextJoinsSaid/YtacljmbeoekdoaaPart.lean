/-
  Right and Part: by two cases each, whether the span lies in the text.
-/
import Derived.Test.YtacljmbeoekdoaaSpan
import Derived.Test.YtacljmbeoekdoaaAliveB
import Derived.Lib.Hide
namespace Go.Proofs.Ytacljmbeoekdoaa
open Go.RowKit
set_option linter.unusedVariables false

theorem right_yes (s : ByteArray) (i j : Nat) (hs : s.size ≤ 3000) (hi : i ≤ j) (hj : j ≤ s.size) (w : World) :
    Calls Try.prog 8 #[.string s, .agg #[.int .i64 i, .int .i64 j]] w fun e w' => e = .returned (.bool true) ∧ Below w.heap.size w w' := by
  go_enter Try.func8, Try.ntmps8
  go_wp2
  go_ret
  exact ⟨rfl, by go_grown⟩

def InText (s : ByteArray) (a b : Int) : Prop := 0 ≤ a ∧ a ≤ b ∧ b ≤ s.size

theorem right_no (s : ByteArray) (a b : Int) (hs : s.size ≤ 3000) (h : ¬ InText s a b) (w : World) :
    Calls Try.prog 8 #[.string s, .agg #[.int .i64 a, .int .i64 b]] w fun e w' => e = .returned (.bool false) ∧ Below w.heap.size w w' := by
  have h' : ¬ (0 ≤ a ∧ a ≤ b ∧ b ≤ s.size) := h
  by_cases h1 : 0 ≤ a
  · by_cases h2 : a ≤ b
    · have h3 : ¬ b ≤ s.size := fun h3 => h' ⟨h1, h2, h3⟩
      clear h h'
      go_enter Try.func8, Try.ntmps8
      go_wp2
      go_ret
      exact ⟨rfl, by go_grown⟩
    · clear h h'
      go_enter Try.func8, Try.ntmps8
      go_wp2
      go_ret
      exact ⟨rfl, by go_grown⟩
  · clear h h'
    go_enter Try.func8, Try.ntmps8
    go_wp2
    go_ret
    exact ⟨rfl, by go_grown⟩

theorem ref_yes (s : ByteArray) (i j : Nat) (hs : s.size ≤ 3000) (hi : i ≤ j) (hj : j ≤ s.size) (w : World) :
    Calls Try.prog 9 #[.string s, .agg #[.int .i64 i, .int .i64 j]] w fun e w' => e = .returned (.bool true) ∧ Below w.heap.size w w' := by
  go_enter Try.func9, Try.ntmps9
  go_wp2
  go_ret
  exact ⟨rfl, by go_grown⟩

theorem ref_no (s : ByteArray) (a b : Int) (hs : s.size ≤ 3000) (h : ¬ InText s a b) (w : World) :
    Calls Try.prog 9 #[.string s, .agg #[.int .i64 a, .int .i64 b]] w fun e w' => e = .returned (.bool false) ∧ Below w.heap.size w w' := by
  have h' : ¬ (0 ≤ a ∧ a ≤ b ∧ b ≤ s.size) := h
  clear h
  have H := Lib.hid h'
  clear h'
  go_enter Try.func9, Try.ntmps9
  go_wp2
  all_goals first
    | (go_ret; exact ⟨rfl, by go_grown⟩)
    | (exfalso; have := H.out; omega)
    | (go_ret; refine ⟨ret_bool ?_, by go_grown⟩; have := H.out; simp; omega)

theorem part_yes (s : ByteArray) (i j : Nat) (hs : s.size ≤ 3000) (hi : i ≤ j) (hj : j ≤ s.size) (w : World) :
    Calls Try.prog 7 #[.string s, .agg #[.int .i64 i, .int .i64 j]] w fun e w' => e = .returned (.tuple #[.string (s.extract i j), .int .i64 0]) ∧ Below w.heap.size w w' := by
  have he : (s.extract i j).size ≤ 3000 := by rw [ByteArray.size_extract]; omega
  have hz : (w.alloc (.cells #[.int .i64 i, .int .i64 j] 23)).heap.size = w.heap.size + 1 := by simp
  go_enter Try.func7, Try.ntmps7
  go_wp2_with (first | (go_at_call 8; refine (right_yes s i j hs hi hj _).mono ?_; rintro e w1 ⟨rfl, hb1⟩; obtain ⟨hc, hf⟩ := bcell hb1) | (go_at_call 18; refine (clone_any _ _ he).mono ?_; rintro e w2 ⟨rfl, hb2⟩))
  go_returns
  exact ⟨rfl, Below.on (Below.on (by go_grown) (by simp) hb1) (by have := hb1.size; simp at this; omega) hb2⟩

theorem part_no (s : ByteArray) (a b : Int) (hs : s.size ≤ 3000) (h : ¬ InText s a b) (w : World) :
    Calls Try.prog 7 #[.string s, .agg #[.int .i64 a, .int .i64 b]] w fun e w' => e = .returned (.tuple #[.string ⟨#[]⟩, .int .i64 2]) ∧ Below w.heap.size w w' := by
  have H := Lib.hid h
  clear h
  go_enter Try.func7, Try.ntmps7
  go_wp2_with (go_at_call 8; refine (right_no s _ _ hs H.out _).mono ?_; rintro e w1 ⟨rfl, hb1⟩)
  go_returns
  exact ⟨rfl, Below.on (by go_grown) (by simp) hb1⟩

theorem no_any (n : Int) (w : World) :
    Calls Try.prog 10 #[.int .i64 n] w fun e w' => e = .returned (.int .i64 n) ∧ w = w' := by
  go_enter Try.func10, Try.ntmps10
  go_wp2
  go_ret
  exact ⟨rfl, rfl⟩
end Go.Proofs.Ytacljmbeoekdoaa
