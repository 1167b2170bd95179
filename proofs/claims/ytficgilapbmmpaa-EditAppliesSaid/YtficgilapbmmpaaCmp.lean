/-
  The closure that compares two edits: below 0 just if the first one stands ahead.
-/
import Derived.Test.YtficgilapbmmpaaSort
import Derived.Test.YtficgilapbmmpaaShelf
import Derived.Deep.RegionHeld3
namespace Go.Proofs.Ytficgilapbmmpaa
open Go.RowKit
set_option linter.unusedVariables false

def cmpI (x y : Int) : Int := if x < y then -1 else if y < x then 1 else 0
def orI (x y : Int) : Int := if x ≠ 0 then x else y
theorem orI_yes {x y : Int} (h : x ≠ 0) : orI x y = x := if_pos h
theorem orI_no (y : Int) : orI 0 y = y := if_neg (by simp)
def cmpE (x y : Ed) : Int := orI (cmpI x.a y.a) (cmpI x.e y.e)
theorem cmpE_lt (x y : Ed) : cmpE x y < 0 ↔ ltE x y := by
  unfold cmpE orI cmpI ltE
  split <;> (repeat' split) <;> omega

theorem compare_any (x y : Int) (w : World) :
    Calls Try.prog 35 #[.int .i64 x, .int .i64 y] w fun e w' => e = .returned (.int .i64 (cmpI x y)) ∧ w = w' := by
  refine (Try.cmp_Compare_int x y w).mono ?_
  rintro e w' ⟨rfl, rfl⟩
  exact ⟨by unfold cmpI; rfl, rfl⟩

theorem or_two (x y : Int) (b : Nat) (w : World) (h0 : w.cell? ⟨b, 0, none⟩ = some (.int .i64 x)) (h1 : w.cell? ⟨b, 1, none⟩ = some (.int .i64 y)) :
    Calls Try.prog 34 #[.slice (some ⟨b, 0, none⟩) 2 2] w fun e w' => e = .returned (.int .i64 (orI x y)) ∧ w = w' := by
  by_cases hx : x = 0
  · subst hx
    have hO := Lib.hid (orI_no y)
    by_cases hy : y = 0
    · subst hy
      go_enter Try.func34, Try.ntmps34
      go_wp2
      refine wp_loop_rounds 3 ?_
      rw [rounds_succ]
      go_wp2
      rw [rounds_succ]
      go_wp2
      rw [rounds_succ]
      go_wp2
      go_ret
      exact ⟨ret_int hO.out.symm, rfl⟩
    · have hy1 : (y == 0) = false := by rw [beq_eq_false_iff_ne]; exact hy
      have hy2 : (y != 0) = true := by rw [bne, hy1]; rfl
      go_enter Try.func34, Try.ntmps34
      go_wp2
      refine wp_loop_rounds 3 ?_
      rw [rounds_succ]
      go_wp2
      rw [rounds_succ]
      go_wp2
      go_ret
      exact ⟨ret_int hO.out.symm, rfl⟩
  · have hO := Lib.hid (orI_yes (y := y) hx)
    have hx1 : (x == 0) = false := by rw [beq_eq_false_iff_ne]; exact hx
    have hx2 : (x != 0) = true := by rw [bne, hx1]; rfl
    go_enter Try.func34, Try.ntmps34
    go_wp2
    refine wp_loop_rounds 3 ?_
    rw [rounds_succ]
    go_wp2
    go_ret
    exact ⟨ret_int hO.out.symm, rfl⟩

set_option maxHeartbeats 1000000 in
theorem comes_any (x y : Ed) (w : World) :
    Calls Try.prog 33 #[.agg #[.int .i64 x.a, .int .i64 x.e, .string x.t], .agg #[.int .i64 y.a, .int .i64 y.e, .string y.t]] w fun e w' => e = .returned (.int .i64 (cmpE x y)) ∧ Below w.heap.size w w' := by
  have hE : Hid (cmpE x y = orI (cmpI x.a y.a) (cmpI x.e y.e)) := Lib.hid rfl
  go_enter Try.func33, Try.ntmps33
  go_wp2_with fail
  generalize hW : (w.alloc (.cells #[.int .i64 x.a, .int .i64 x.e, .string x.t] 55)).alloc (.cells #[.int .i64 y.a, .int .i64 y.e, .string y.t] 55) = wa at *
  have b0 : Below w.heap.size w wa := by rw [← hW]; exact ((Below.refl _ _).alloc (Nat.le_refl _) _).alloc (by simp) _
  have hz : wa.heap.size = w.heap.size + 2 := by rw [← hW]; simp
  have x0 : wa.cell? ⟨w.heap.size, 0, none⟩ = some (.int .i64 x.a) := by rw [← hW]; simp [go_sem]
  have x1 : wa.cell? ⟨w.heap.size, 1, none⟩ = some (.int .i64 x.e) := by rw [← hW]; simp [go_sem]
  have y0 : wa.cell? ⟨w.heap.size + 1, 0, none⟩ = some (.int .i64 y.a) := by rw [← hW]; simp [go_sem]
  have y1 : wa.cell? ⟨w.heap.size + 1, 1, none⟩ = some (.int .i64 y.e) := by rw [← hW]; simp [go_sem]
  have HZ := Lib.hid hz
  have l0 : w.heap.size < wa.heap.size := by omega
  have l1 : w.heap.size + 1 < wa.heap.size := by omega
  clear hW hz
  go_region_held3 (fun w' => w'.cell? ⟨w.heap.size, 0, none⟩ = some (.int .i64 x.a) ∧ w'.cell? ⟨w.heap.size, 1, none⟩ = some (.int .i64 x.e) ∧ w'.cell? ⟨w.heap.size + 1, 0, none⟩ = some (.int .i64 y.a) ∧ w'.cell? ⟨w.heap.size + 1, 1, none⟩ = some (.int .i64 y.e))
    (go_keep)
    ((first
      | (go_at_call 35; refine (compare_any _ _ _).mono ?_; rintro e wp ⟨rfl, rfl⟩)
      | (go_at_call 34; refine (or_two (cmpI x.a y.a) (cmpI x.e y.e) wa.heap.size _ (by simp [go_sem]) (by simp [go_sem])).mono ?_; rintro e wq ⟨rfl, rfl⟩)))
  all_goals
    go_wp2_with fail
    go_ret
    refine ⟨ret_int hE.out.symm, ?_⟩
    exact (b0.drew).alloc (by have := HZ.out; show _ ≤ wa.heap.size; omega) _
end Go.Proofs.Ytficgilapbmmpaa
