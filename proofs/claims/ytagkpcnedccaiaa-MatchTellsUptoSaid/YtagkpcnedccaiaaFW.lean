/-
  DERIVED: THE SHELF's CONTRACTS AT THIS DUMP, IN PLAIN WORDS (tools/lay-plain.mjs out of 'YtagkpcnedccaiaaShelf0.lean', which tools/lay-shelf.mjs wrote): THE SAME DECLARATIONS UNDER THE SAME NAMES: 'import', 'namespace', 'open', 'def', 'theorem' AND NOTHING ELSE: no command of the shelf's: FOR A HAND-IN. Each laying: the table of numbers ('.._ren') and one theorem, a field a fact of the dump's own or the kernel's comparison; each contract: ONE APPLICATION.; The order of links, walked; Less.
-/
import Derived.Shelf.SlSortCmp.NoneTotal
import Derived.Test.YtagkpcnedccaiaaProg
import Derived.Test.YtagkpcnedccaiaaFA
import Derived.Test.YtagkpcnedccaiaaFQ
import Derived.Deep.RegionHeld3
namespace Go.Proofs
open Go.Shelf
def Try.sortL_ren : Go.Shelf.Ren := ⟨fun | 6 => 30 | 15 => 41 | 14 => 40 | 28 => 55 | 29 => 56 | 20 => 47 | 21 => 48 | 22 => 49 | 23 => 50 | 24 => 51 | 25 => 52 | 26 => 53 | 27 => 54 | 46 => 64 | 47 => 65 | 48 => 66 | 49 => 67 | 50 => 68 | 57 => 73 | n => n, fun | 22 => 64 | 24 => 65 | 25 => 67 | 3 => 3 | 39 => 88 | 0 => 0 | 53 => 110 | 55 => 112 | 4 => 4 | 46 => 104 | 45 => 103 | 50 => 71 | 5 => 5 | 9 => 9 | 66 => 121 | 70 => 125 | 76 => 131 | 77 => 132 | n => n, fun | n => n⟩
theorem Try.sortL : Go.Proofs.SlLaysF0.n6 Try.prog Try.sortL_ren := {
 mixed := by kernel_rfl
 f6 := ⟨Try.f30.name, by decide, Try.func30.trans (congrArg some (by kernel_rfl))⟩
 f14 := ⟨Try.f40.name, by decide, Try.func40.trans (congrArg some (by kernel_rfl))⟩
 f15 := Try.func41.trans (congrArg some (by kernel_rfl))
 f20 := ⟨Try.f47.name, by decide, Try.func47.trans (congrArg some (by kernel_rfl))⟩
 f21 := ⟨Try.f48.name, by decide, Try.func48.trans (congrArg some (by kernel_rfl))⟩
 f22 := ⟨Try.f49.name, by decide, Try.func49.trans (congrArg some (by kernel_rfl))⟩
 f23 := ⟨Try.f50.name, by decide, Try.func50.trans (congrArg some (by kernel_rfl))⟩
 f24 := ⟨Try.f51.name, by decide, Try.func51.trans (congrArg some (by kernel_rfl))⟩
 f25 := ⟨Try.f52.name, by decide, Try.func52.trans (congrArg some (by kernel_rfl))⟩
 f26 := ⟨Try.f53.name, by decide, Try.func53.trans (congrArg some (by kernel_rfl))⟩
 f27 := ⟨Try.f54.name, by decide, Try.func54.trans (congrArg some (by kernel_rfl))⟩
 f28 := Try.func55.trans (congrArg some (by kernel_rfl))
 f29 := Try.func56.trans (congrArg some (by kernel_rfl))
 f46 := ⟨Try.f64.name, by decide, Try.func64.trans (congrArg some (by kernel_rfl))⟩
 f47 := Try.func65.trans (congrArg some (by kernel_rfl))
 f48 := Try.func66.trans (congrArg some (by kernel_rfl))
 f49 := ⟨Try.f67.name, by decide, Try.func67.trans (congrArg some (by kernel_rfl))⟩
 f50 := ⟨Try.f68.name, by decide, Try.func68.trans (congrArg some (by kernel_rfl))⟩
 f57 := ⟨Try.f73.name, by decide, Try.func73.trans (congrArg some (by kernel_rfl))⟩
 t0 := Try.underlying0
 a0 := Try.isAgg0
 z0 := Try.sizeOf0
 v0 := Try.zeroValue0
 t3 := Try.underlying3
 a3 := Try.isAgg3
 z3 := Try.sizeOf3
 v3 := Try.zeroValue3
 t4 := Try.underlying4
 a4 := Try.isAgg4
 z4 := Try.sizeOf4
 v4 := Try.zeroValue4
 t5 := Try.underlying5
 a5 := Try.isAgg5
 z5 := Try.sizeOf5
 v5 := Try.zeroValue5
 t9 := Try.underlying9
 a9 := Try.isAgg9
 z9 := Try.sizeOf9
 v9 := Try.zeroValue9
 t22 := Try.underlying64
 a22 := Try.isAgg64
 z22 := Try.sizeOf64
 v22 := Try.zeroValue64
 t25 := Try.underlying67
 a25 := Try.isAgg67
 z25 := Try.sizeOf67
 v25 := Try.zeroValue67
 t39 := Try.underlying88
 a39 := Try.isAgg88
 z39 := Try.sizeOf88
 v39 := Try.zeroValue88
 t45 := Try.underlying103
 a45 := Try.isAgg103
 z45 := Try.sizeOf103
 v45 := Try.zeroValue103
 t46 := Try.underlying104
 a46 := Try.isAgg104
 z46 := Try.sizeOf104
 v46 := Try.zeroValue104
 t50 := Try.underlying71
 a50 := Try.isAgg71
 z50 := Try.sizeOf71
 v50 := Try.zeroValue71
 t53 := Try.underlying110
 a53 := Try.isAgg110
 z53 := Try.sizeOf110
 v53 := Try.zeroValue110
 t55 := Try.underlying112
 a55 := Try.isAgg112
 z55 := Try.sizeOf112
 v55 := Try.zeroValue112
 t66 := Try.underlying121
 a66 := Try.isAgg121
 z66 := Try.sizeOf121
 v66 := Try.zeroValue121
 t70 := Try.underlying125
 a70 := Try.isAgg125
 z70 := Try.sizeOf125
 v70 := Try.zeroValue125
 t76 := Try.underlying131
 a76 := Try.isAgg131
 z76 := Try.sizeOf131
 v76 := Try.zeroValue131
 t77 := Try.underlying132
 a77 := Try.isAgg132
 z77 := Try.sizeOf132
 v77 := Try.zeroValue132 }
end Go.Proofs

namespace Go.Proofs.Ytagkpcnedccaiaa
open Go.RowKit Go.Sort
set_option maxRecDepth 20000
set_option linter.unusedVariables false
set_option linter.unusedSimpArgs false

def cfL (x y : P2) : Int := orI (cmpI x.1 y.1) (cmpI x.2 y.2)
theorem cfL_lt (x y : P2) : decide (cfL x y < 0) = plt x y := by
 unfold cfL orI cmpI plt
 by_cases h1 : x.1 < y.1
 ·simp [h1]
 ·by_cases h2 : y.1 < x.1
  ·have : ¬ x.1 = y.1 := by omega
   simp [h1, h2, this]
  ·have : x.1 = y.1 := by omega
   by_cases h3 : x.2 < y.2
   ·simp [this, h3]
   ·by_cases h4 : y.2 < x.2
    ·simp [this, h3, h4]
    ·simp [this, h3, h4]
def ltL (x y : P2) : Bool := decide (cfL x y < 0)
theorem ltL_plt : ltL = plt := by funext x y; exact cfL_lt x y
theorem swoL : SWO ltL where
 irrefl x := by rw [ltL_plt]; exact plt_irr x
 trans x y z h1 h2 := by rw [ltL_plt] at *; exact plt_trans h1 h2
 ntrans x y z h1 h2 := by
  rw [ltL_plt] at *
  cases h : plt x z with
  | false => rfl
  | true =>
   have a1 : ¬ plt x y = true := by simp [h1]
   have a2 : ¬ plt y z = true := by simp [h2]
   rw [plt_iff] at a1 a2 h
   omega
set_option maxHeartbeats 1000000 in
theorem lorder_any (x y : P2) (w : World) :
  Calls Try.prog 31 #[.agg #[.int .i64 x.1, .int .i64 x.2], .agg #[.int .i64 y.1, .int .i64 y.2]] w fun e w' => e = .returned (.int .i64 (cfL x y)) ∧ ∃ q os, w' = grow (w.drewN q) os := by
 obtain ⟨xs, xn⟩ := x
 obtain ⟨ys, yn⟩ := y
 have hE : Hid (cfL (xs, xn) (ys, yn) = orI (cmpI xs ys) (cmpI xn yn)) := Lib.hid rfl
 simp only
 go_enter Try.func31, Try.ntmps31
 go_wp2_with fail
 generalize hW : (w.alloc (.cells #[.int .i64 xs, .int .i64 xn] 65)).alloc (.cells #[.int .i64 ys, .int .i64 yn] 65) = wa at *
 have HWA : Hid (∃ os, wa = grow w os) := Lib.hid ⟨_, by rw [← hW, alloc_eq_grow, alloc_eq_grow, grow_grow]⟩
 have hz : wa.heap.size = w.heap.size + 2 := by rw [← hW]; simp
 have x0 : wa.cell? ⟨w.heap.size, 0, none⟩ = some (.int .i64 xs) := by rw [← hW]; simp [go_sem]
 have x1 : wa.cell? ⟨w.heap.size, 1, none⟩ = some (.int .i64 xn) := by rw [← hW]; simp [go_sem]
 have y0 : wa.cell? ⟨w.heap.size + 1, 0, none⟩ = some (.int .i64 ys) := by rw [← hW]; simp [go_sem]
 have y1 : wa.cell? ⟨w.heap.size + 1, 1, none⟩ = some (.int .i64 yn) := by rw [← hW]; simp [go_sem]
 have HZ := Lib.hid hz
 have l0 : w.heap.size < wa.heap.size := by omega
 have l1 : w.heap.size + 1 < wa.heap.size := by omega
 clear hW hz
 go_region_held3 (fun w' => w'.cell? ⟨w.heap.size, 0, none⟩ = some (.int .i64 xs) ∧ w'.cell? ⟨w.heap.size, 1, none⟩ = some (.int .i64 xn) ∧ w'.cell? ⟨w.heap.size + 1, 0, none⟩ = some (.int .i64 ys) ∧ w'.cell? ⟨w.heap.size + 1, 1, none⟩ = some (.int .i64 yn))
  (go_keep)
  ((first
   | (go_at_call 43; refine (compareI_any _ _ _).mono ?_; rintro e wp ⟨rfl, rfl⟩)
   | (go_at_call 42; refine (or_two (cmpI xs ys) (cmpI xn yn) wa.heap.size _ (by simp [go_sem]) (by simp [go_sem])).mono ?_; rintro e wq ⟨rfl, rfl⟩)))
 all_goals
  go_wp2_with fail
  go_ret
  refine ⟨ret_int hE.out.symm, ?_⟩
  obtain ⟨os, hos⟩ := HWA.out
  refine ⟨1, os ++ #[.cells #[.int .i64 (cmpI xs ys), .int .i64 (cmpI xn yn)] 3], ?_⟩
  rw [alloc_eq_grow, hos, grow_grow]
  rfl
theorem grow_below {N : Nat} {W w : World} (h : Below N W w) (hN : N ≤ w.heap.size) (q : Nat) (os : Array Obj) : Below N W (grow (w.drewN q) os) := by
 refine h.trans ⟨rfl, rfl, rfl, ?_, fun k hk => ?_⟩
 ·show _ ≤ (w.heap ++ os).size
  simp
 ·show (w.heap ++ os)[k]? = w.heap[k]?
  rw [Array.getElem?_append_left (by omega)]
set_option maxHeartbeats 1000000 in
theorem less_any (x y : P2) (w : World) :
  Calls Try.prog 21 #[.agg #[.int .i64 x.1, .int .i64 x.2], .agg #[.int .i64 y.1, .int .i64 y.2]] w fun e w' => e = .returned (.bool (plt x y)) ∧ ∃ q os, w' = grow (w.drewN q) os := by
 have HP : Hid (∀ b : Bool, b = decide (cfL x y < 0) → b = plt x y) := Lib.hid fun b hb => by rw [hb]; exact cfL_lt x y
 have HC := fun W => lorder_any x y W
 generalize cfL x y = z at *
 go_enter Try.func21, Try.ntmps21
 go_wp2_with (go_at_call 31; refine (HC _).mono ?_; rintro e w1 ⟨rfl, q, os, rfl⟩)
 go_ret
 refine ⟨by rw [← HP.out _ rfl]; rfl, q, _, by rw [alloc_eq_grow, alloc_eq_grow, grow_grow, show ∀ (W : World) (o : Array Obj), (grow W o).drewN q = grow (W.drewN q) o from fun _ _ => rfl, grow_grow]⟩
end Go.Proofs.Ytagkpcnedccaiaa
