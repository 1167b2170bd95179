/-
  The order of links, walked; Less.
-/
import Derived.Test.YtggoajpemffbiaaOrd
import Derived.Test.YtggoajpemffbiaaRw
import Derived.Test.YtggoajpemffbiaaShelf
import Derived.Deep.RegionHeld3
namespace Go.Proofs.Ytggoajpemffbiaa
open Go.RowKit Go.Sort
set_option maxRecDepth 20000
set_option linter.unusedVariables false
set_option linter.unusedSimpArgs false

def cfL (x y : P2) : Int := orI (cmpI x.1 y.1) (cmpI x.2 y.2)
theorem cfL_lt (x y : P2) : decide (cfL x y < 0) = plt x y := by
  unfold cfL orI cmpI plt
  by_cases h1 : x.1 < y.1
  · simp [h1]
  · by_cases h2 : y.1 < x.1
    · have : ¬ x.1 = y.1 := by omega
      simp [h1, h2, this]
    · have : x.1 = y.1 := by omega
      by_cases h3 : x.2 < y.2
      · simp [this, h3]
      · by_cases h4 : y.2 < x.2
        · simp [this, h3, h4]
        · simp [this, h3, h4]
def ltL (x y : P2) : Bool := decide (cfL x y < 0)
theorem ltL_plt : ltL = plt := by funext x y; exact cfL_lt x y
theorem swoL : SWO ltL where
  irrefl x := by rw [ltL_plt]; exact plt_irr x
  trans x y z h1 h2 := by rw [ltL_plt] at *; exact plt_trans h1 h2
  ntrans x y z h1 h2 := by
    rw [ltL_plt] at *
    cases h : plt x z with
    | false => rfl
    | true =>
      have a1 : ¬ plt x y = true := by simp [h1]
      have a2 : ¬ plt y z = true := by simp [h2]
      rw [plt_iff] at a1 a2 h
      omega
set_option maxHeartbeats 1000000 in
theorem lorder_any (x y : P2) (w : World) :
    Calls Try.prog 30 #[.agg #[.int .i64 x.1, .int .i64 x.2], .agg #[.int .i64 y.1, .int .i64 y.2]] w fun e w' => e = .returned (.int .i64 (cfL x y)) ∧ ∃ q os, w' = grow (w.drewN q) os := by
  obtain ⟨xs, xn⟩ := x
  obtain ⟨ys, yn⟩ := y
  have hE : Hid (cfL (xs, xn) (ys, yn) = orI (cmpI xs ys) (cmpI xn yn)) := Lib.hid rfl
  simp only
  go_enter Try.func30, Try.ntmps30
  go_wp2_with fail
  generalize hW : (w.alloc (.cells #[.int .i64 xs, .int .i64 xn] 57)).alloc (.cells #[.int .i64 ys, .int .i64 yn] 57) = wa at *
  have HWA : Hid (∃ os, wa = grow w os) := Lib.hid ⟨_, by rw [← hW, alloc_eq_grow, alloc_eq_grow, grow_grow]⟩
  have hz : wa.heap.size = w.heap.size + 2 := by rw [← hW]; simp
  have x0 : wa.cell? ⟨w.heap.size, 0, none⟩ = some (.int .i64 xs) := by rw [← hW]; simp [go_sem]
  have x1 : wa.cell? ⟨w.heap.size, 1, none⟩ = some (.int .i64 xn) := by rw [← hW]; simp [go_sem]
  have y0 : wa.cell? ⟨w.heap.size + 1, 0, none⟩ = some (.int .i64 ys) := by rw [← hW]; simp [go_sem]
  have y1 : wa.cell? ⟨w.heap.size + 1, 1, none⟩ = some (.int .i64 yn) := by rw [← hW]; simp [go_sem]
  have HZ := Lib.hid hz
  have l0 : w.heap.size < wa.heap.size := by omega
  have l1 : w.heap.size + 1 < wa.heap.size := by omega
  clear hW hz
  go_region_held3 (fun w' => w'.cell? ⟨w.heap.size, 0, none⟩ = some (.int .i64 xs) ∧ w'.cell? ⟨w.heap.size, 1, none⟩ = some (.int .i64 xn) ∧ w'.cell? ⟨w.heap.size + 1, 0, none⟩ = some (.int .i64 ys) ∧ w'.cell? ⟨w.heap.size + 1, 1, none⟩ = some (.int .i64 yn))
    (go_keep)
    ((first
      | (go_at_call 37; refine (compareI_any _ _ _).mono ?_; rintro e wp ⟨rfl, rfl⟩)
      | (go_at_call 36; refine (or_two (cmpI xs ys) (cmpI xn yn) wa.heap.size _ (by simp [go_sem]) (by simp [go_sem])).mono ?_; rintro e wq ⟨rfl, rfl⟩)))
  all_goals
    go_wp2_with fail
    go_ret
    refine ⟨ret_int hE.out.symm, ?_⟩
    obtain ⟨os, hos⟩ := HWA.out
    refine ⟨1, os ++ #[.cells #[.int .i64 (cmpI xs ys), .int .i64 (cmpI xn yn)] 3], ?_⟩
    rw [alloc_eq_grow, hos, grow_grow]
    rfl
theorem grow_below {N : Nat} {W w : World} (h : Below N W w) (hN : N ≤ w.heap.size) (q : Nat) (os : Array Obj) : Below N W (grow (w.drewN q) os) := by
  refine h.trans ⟨rfl, rfl, rfl, ?_, fun k hk => ?_⟩
  · show _ ≤ (w.heap ++ os).size
    simp
  · show (w.heap ++ os)[k]? = w.heap[k]?
    rw [Array.getElem?_append_left (by omega)]
set_option maxHeartbeats 1000000 in
theorem less_any (x y : P2) (w : World) :
    Calls Try.prog 21 #[.agg #[.int .i64 x.1, .int .i64 x.2], .agg #[.int .i64 y.1, .int .i64 y.2]] w fun e w' => e = .returned (.bool (plt x y)) ∧ ∃ q os, w' = grow (w.drewN q) os := by
  have HP : Hid (∀ b : Bool, b = decide (cfL x y < 0) → b = plt x y) := Lib.hid fun b hb => by rw [hb]; exact cfL_lt x y
  have HC := fun W => lorder_any x y W
  generalize cfL x y = z at *
  go_enter Try.func21, Try.ntmps21
  go_wp2_with (go_at_call 30; refine (HC _).mono ?_; rintro e w1 ⟨rfl, q, os, rfl⟩)
  go_ret
  refine ⟨by rw [← HP.out _ rfl]; rfl, q, _, by rw [alloc_eq_grow, alloc_eq_grow, grow_grow, show ∀ (W : World) (o : Array Obj), (grow W o).drewN q = grow (W.drewN q) o from fun _ _ => rfl, grow_grow]⟩
end Go.Proofs.Ytggoajpemffbiaa
