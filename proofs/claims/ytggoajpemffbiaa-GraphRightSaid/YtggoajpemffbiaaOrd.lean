/-
  The order of keys, walked: cmp.Compare at numbers and texts, cmp.Or of two, order.
-/
import Derived.Test.YtggoajpemffbiaaPln
import Derived.Laws.Cover1
namespace Go.Proofs.Ytggoajpemffbiaa
open Go.RowKit
set_option maxRecDepth 20000
set_option linter.unusedVariables false
set_option linter.unusedSimpArgs false

theorem nan42_any (x : Int) (w : World) : Calls Try.prog 41 #[.int .i64 x] w fun e w' => e = .returned (.bool false) ∧ w = w' := by
  have h : (x != x) = false := by simp
  go_enter Try.func41, Try.ntmps41
  go_wp2
  go_ret
  exact ⟨by simp, rfl⟩
theorem compareI_any (x y : Int) (w : World) : Calls Try.prog 37 #[.int .i64 x, .int .i64 y] w fun e w' => e = .returned (.int .i64 (cmpI x y)) ∧ w = w' := by
  rcases Int.lt_trichotomy x y with h | h | h
  · have hc : Hid (cmpI x y = -1) := Lib.hid (by simp [cmpI, h])
    go_enter Try.func37, Try.ntmps37
    go_wp2_with (first | (go_at_call 41; refine (nan42_any _ _).mono ?_; rintro e wp ⟨rfl, rfl⟩))
    go_ret
    exact ⟨ret_int hc.out.symm, rfl⟩
  · have hc : Hid (cmpI x y = 0) := Lib.hid (by simp [cmpI, h])
    have h1 : ¬ x < y := by omega
    have h2 : ¬ y < x := by omega
    clear h
    go_enter Try.func37, Try.ntmps37
    go_wp2_with (first | (go_at_call 41; refine (nan42_any _ _).mono ?_; rintro e wp ⟨rfl, rfl⟩))
    go_ret
    exact ⟨ret_int hc.out.symm, rfl⟩
  · have h1 : ¬ x < y := by omega
    have hc : Hid (cmpI x y = 1) := Lib.hid (by simp [cmpI, h, h1])
    go_enter Try.func37, Try.ntmps37
    go_wp2_with (first | (go_at_call 41; refine (nan42_any _ _).mono ?_; rintro e wp ⟨rfl, rfl⟩))
    go_ret
    exact ⟨ret_int hc.out.symm, rfl⟩
theorem or_two (x y : Int) (b : Nat) (w : World) (h0 : w.cell? ⟨b, 0, none⟩ = some (.int .i64 x)) (h1 : w.cell? ⟨b, 1, none⟩ = some (.int .i64 y)) :
    Calls Try.prog 36 #[.slice (some ⟨b, 0, none⟩) 2 2] w fun e w' => e = .returned (.int .i64 (orI x y)) ∧ w = w' := by
  by_cases hx : x = 0
  · subst hx
    have hO := Lib.hid (orI_no y)
    by_cases hy : y = 0
    · subst hy
      go_enter Try.func36, Try.ntmps36
      go_wp2
      refine wp_loop_rounds 3 ?_
      rw [rounds_succ]
      go_wp2
      rw [rounds_succ]
      go_wp2
      rw [rounds_succ]
      go_wp2
      go_ret
      exact ⟨ret_int hO.out.symm, rfl⟩
    · have hy1 : (y == 0) = false := by rw [beq_eq_false_iff_ne]; exact hy
      have hy2 : (y != 0) = true := by rw [bne, hy1]; rfl
      go_enter Try.func36, Try.ntmps36
      go_wp2
      refine wp_loop_rounds 3 ?_
      rw [rounds_succ]
      go_wp2
      rw [rounds_succ]
      go_wp2
      go_ret
      exact ⟨ret_int hO.out.symm, rfl⟩
  · have hO := Lib.hid (orI_yes (y := y) hx)
    have hx1 : (x == 0) = false := by rw [beq_eq_false_iff_ne]; exact hx
    have hx2 : (x != 0) = true := by rw [bne, hx1]; rfl
    go_enter Try.func36, Try.ntmps36
    go_wp2
    refine wp_loop_rounds 3 ?_
    rw [rounds_succ]
    go_wp2
    go_ret
    exact ⟨ret_int hO.out.symm, rfl⟩

end Go.Proofs.Ytggoajpemffbiaa
