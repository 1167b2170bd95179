/-
  The reference's 'ahead': whether one edit stands strictly ahead of another.
-/
import Derived.Test.YtficgilapbmmpaaSortedB
namespace Go.Proofs.Ytficgilapbmmpaa
open Go.RowKit
set_option linter.unusedVariables false

theorem ahead_any (x y : Ed) (w : World) :
    Calls Try.prog 36 #[.agg #[.int .i64 x.a, .int .i64 x.e, .string x.t], .agg #[.int .i64 y.a, .int .i64 y.e, .string y.t]] w fun e w' => e = .returned (.bool (decide (ltE x y))) ∧ Below w.heap.size w w' := by
  by_cases h1 : x.a < y.a
  · have hR : Hid (true = decide (ltE x y)) := Lib.hid (decide_eq_true (Or.inl h1)).symm
    go_enter Try.func36, Try.ntmps36
    go_wp2_with fail
    go_ret
    exact ⟨ret_bool hR.out, by go_grown⟩
  · by_cases h2 : x.a = y.a
    · have h2b : (x.a == y.a) = true := by rw [beq_iff_eq]; exact h2
      by_cases h3 : x.e < y.e
      · have hR : Hid (true = decide (ltE x y)) := Lib.hid (decide_eq_true (Or.inr ⟨h2, h3⟩)).symm
        clear h2
        go_enter Try.func36, Try.ntmps36
        go_wp2_with fail
        go_ret
        exact ⟨ret_bool hR.out, by go_grown⟩
      · have hR : Hid (false = decide (ltE x y)) := Lib.hid (decide_eq_false (by unfold ltE; omega)).symm
        clear h2
        go_enter Try.func36, Try.ntmps36
        go_wp2_with fail
        go_ret
        exact ⟨ret_bool hR.out, by go_grown⟩
    · have h2b : (x.a == y.a) = false := by rw [beq_eq_false_iff_ne]; exact h2
      have hR : Hid (false = decide (ltE x y)) := Lib.hid (decide_eq_false (by unfold ltE; omega)).symm
      go_enter Try.func36, Try.ntmps36
      go_wp2_with fail
      go_ret
      exact ⟨ret_bool hR.out, by go_grown⟩
end Go.Proofs.Ytficgilapbmmpaa
