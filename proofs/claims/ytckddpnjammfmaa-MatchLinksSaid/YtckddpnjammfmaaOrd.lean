/-
  The order of keys, walked: cmp.Compare at numbers and texts, cmp.Or of two, order.
-/
import Derived.Test.YtckddpnjammfmaaPln
import Derived.Laws.Cover1
namespace Go.Proofs.Ytckddpnjammfmaa
open Go.RowKit
set_option maxRecDepth 20000
set_option linter.unusedVariables false
set_option linter.unusedSimpArgs false

theorem nan42_any (x : Int) (w : World) : Calls Try.prog 57 #[.int .i64 x] w fun e w' => e = .returned (.bool false) ∧ w = w' := by
  have h : (x != x) = false := by simp
  go_enter Try.func57, Try.ntmps57
  go_wp2
  go_ret
  exact ⟨by simp, rfl⟩
theorem nan43_any (x : ByteArray) (w : World) : Calls Try.prog 76 #[.string x] w fun e w' => e = .returned (.bool false) ∧ w = w' := by
  go_enter Try.func76, Try.ntmps76
  go_wp2
  go_ret
  exact ⟨by simp, rfl⟩
theorem compareI_any (x y : Int) (w : World) : Calls Try.prog 43 #[.int .i64 x, .int .i64 y] w fun e w' => e = .returned (.int .i64 (cmpI x y)) ∧ w = w' := by
  rcases Int.lt_trichotomy x y with h | h | h
  · have hc : Hid (cmpI x y = -1) := Lib.hid (by simp [cmpI, h])
    go_enter Try.func43, Try.ntmps43
    go_wp2_with (first | (go_at_call 57; refine (nan42_any _ _).mono ?_; rintro e wp ⟨rfl, rfl⟩))
    go_ret
    exact ⟨ret_int hc.out.symm, rfl⟩
  · have hc : Hid (cmpI x y = 0) := Lib.hid (by simp [cmpI, h])
    have h1 : ¬ x < y := by omega
    have h2 : ¬ y < x := by omega
    clear h
    go_enter Try.func43, Try.ntmps43
    go_wp2_with (first | (go_at_call 57; refine (nan42_any _ _).mono ?_; rintro e wp ⟨rfl, rfl⟩))
    go_ret
    exact ⟨ret_int hc.out.symm, rfl⟩
  · have h1 : ¬ x < y := by omega
    have hc : Hid (cmpI x y = 1) := Lib.hid (by simp [cmpI, h, h1])
    go_enter Try.func43, Try.ntmps43
    go_wp2_with (first | (go_at_call 57; refine (nan42_any _ _).mono ?_; rintro e wp ⟨rfl, rfl⟩))
    go_ret
    exact ⟨ret_int hc.out.symm, rfl⟩
theorem compareS_any (x y : ByteArray) (w : World) : Calls Try.prog 71 #[.string x, .string y] w fun e w' => e = .returned (.int .i64 (cmpS x y)) ∧ w = w' := by
  by_cases h : Op.bytesLess x.toList y.toList = true
  · have hc : Hid (cmpS x y = -1) := Lib.hid (by simp [cmpS, h])
    go_enter Try.func71, Try.ntmps71
    go_wp2_with (first | (go_at_call 76; refine (nan43_any _ _).mono ?_; rintro e wp ⟨rfl, rfl⟩))
    go_ret
    exact ⟨ret_int hc.out.symm, rfl⟩
  · have h1 : Op.bytesLess x.toList y.toList = false := by simpa using h
    by_cases h2 : x.toList = y.toList
    · have hc : Hid (cmpS x y = 0) := Lib.hid (by simp only [cmpS, h1, h2]; simp [less_irr])
      have h3 : (x.toList == y.toList) = true := by simp [h2]
      clear h h2
      go_enter Try.func71, Try.ntmps71
      go_wp2_with (first | (go_at_call 76; refine (nan43_any _ _).mono ?_; rintro e wp ⟨rfl, rfl⟩))
      go_ret
      exact ⟨ret_int hc.out.symm, rfl⟩
    · have hc : Hid (cmpS x y = 1) := Lib.hid (by simp [cmpS, h1, h2])
      have h3 : (x.toList == y.toList) = false := by simp [h2]
      clear h h2
      go_enter Try.func71, Try.ntmps71
      go_wp2_with (first | (go_at_call 76; refine (nan43_any _ _).mono ?_; rintro e wp ⟨rfl, rfl⟩))
      go_ret
      exact ⟨ret_int hc.out.symm, rfl⟩
theorem or_two (x y : Int) (b : Nat) (w : World) (h0 : w.cell? ⟨b, 0, none⟩ = some (.int .i64 x)) (h1 : w.cell? ⟨b, 1, none⟩ = some (.int .i64 y)) :
    Calls Try.prog 42 #[.slice (some ⟨b, 0, none⟩) 2 2] w fun e w' => e = .returned (.int .i64 (orI x y)) ∧ w = w' := by
  by_cases hx : x = 0
  · subst hx
    have hO := Lib.hid (orI_no y)
    by_cases hy : y = 0
    · subst hy
      go_enter Try.func42, Try.ntmps42
      go_wp2
      refine wp_loop_rounds 3 ?_
      rw [rounds_succ]
      go_wp2
      rw [rounds_succ]
      go_wp2
      rw [rounds_succ]
      go_wp2
      go_ret
      exact ⟨ret_int hO.out.symm, rfl⟩
    · have hy1 : (y == 0) = false := by rw [beq_eq_false_iff_ne]; exact hy
      have hy2 : (y != 0) = true := by rw [bne, hy1]; rfl
      go_enter Try.func42, Try.ntmps42
      go_wp2
      refine wp_loop_rounds 3 ?_
      rw [rounds_succ]
      go_wp2
      rw [rounds_succ]
      go_wp2
      go_ret
      exact ⟨ret_int hO.out.symm, rfl⟩
  · have hO := Lib.hid (orI_yes (y := y) hx)
    have hx1 : (x == 0) = false := by rw [beq_eq_false_iff_ne]; exact hx
    have hx2 : (x != 0) = true := by rw [bne, hx1]; rfl
    go_enter Try.func42, Try.ntmps42
    go_wp2
    refine wp_loop_rounds 3 ?_
    rw [rounds_succ]
    go_wp2
    go_ret
    exact ⟨ret_int hO.out.symm, rfl⟩

set_option maxHeartbeats 1000000 in
theorem order_any (x y : Ky) (w : World) :
    Calls Try.prog 61 #[.agg #[.int .i64 x.1, .string x.2], .agg #[.int .i64 y.1, .string y.2]] w fun e w' => e = .returned (.int .i64 (ordK x y)) ∧ Below w.heap.size w w' := by
  obtain ⟨xs, xn⟩ := x
  obtain ⟨ys, yn⟩ := y
  have hE : Hid (ordK (xs, xn) (ys, yn) = orI (cmpI xs ys) (cmpS xn yn)) := Lib.hid rfl
  simp only
  go_enter Try.func61, Try.ntmps61
  go_wp2_with fail
  generalize hW : (w.alloc (.cells #[.int .i64 xs, .string xn] 27)).alloc (.cells #[.int .i64 ys, .string yn] 27) = wa at *
  have b0 : Below w.heap.size w wa := by rw [← hW]; exact ((Below.refl _ _).alloc (Nat.le_refl _) _).alloc (by simp) _
  have hz : wa.heap.size = w.heap.size + 2 := by rw [← hW]; simp
  have x0 : wa.cell? ⟨w.heap.size, 0, none⟩ = some (.int .i64 xs) := by rw [← hW]; simp [go_sem]
  have x1 : wa.cell? ⟨w.heap.size, 1, none⟩ = some (.string xn) := by rw [← hW]; simp [go_sem]
  have y0 : wa.cell? ⟨w.heap.size + 1, 0, none⟩ = some (.int .i64 ys) := by rw [← hW]; simp [go_sem]
  have y1 : wa.cell? ⟨w.heap.size + 1, 1, none⟩ = some (.string yn) := by rw [← hW]; simp [go_sem]
  have HZ := Lib.hid hz
  have l0 : w.heap.size < wa.heap.size := by omega
  have l1 : w.heap.size + 1 < wa.heap.size := by omega
  clear hW hz
  go_region_held3 (fun w' => w'.cell? ⟨w.heap.size, 0, none⟩ = some (.int .i64 xs) ∧ w'.cell? ⟨w.heap.size, 1, none⟩ = some (.string xn) ∧ w'.cell? ⟨w.heap.size + 1, 0, none⟩ = some (.int .i64 ys) ∧ w'.cell? ⟨w.heap.size + 1, 1, none⟩ = some (.string yn))
    (go_keep)
    ((first
      | (go_at_call 43; refine (compareI_any _ _ _).mono ?_; rintro e wp ⟨rfl, rfl⟩)
      | (go_at_call 71; refine (compareS_any _ _ _).mono ?_; rintro e wp ⟨rfl, rfl⟩)
      | (go_at_call 42; refine (or_two (cmpI xs ys) (cmpS xn yn) wa.heap.size _ (by simp [go_sem]) (by simp [go_sem])).mono ?_; rintro e wq ⟨rfl, rfl⟩)))
  all_goals
    go_wp2_with fail
    go_ret
    refine ⟨ret_int hE.out.symm, ?_⟩
    exact (b0.drew).alloc (by have := HZ.out; show _ ≤ wa.heap.size; omega) _
end Go.Proofs.Ytckddpnjammfmaa
