/-
  The small functions over spans: Holds and Meets answer as integers say; nothing that was there before is written.
-/
import Derived.Test.YtacljmbeoekdoaaRows
import Derived.WalkKit
import Derived.Below
import Derived.Deep.Draws
namespace Go.Proofs.Ytacljmbeoekdoaa
open Go.RowKit

theorem val_bool {a b : Bool} (h : a = b) : Value.bool a = Value.bool b := by rw [h]
theorem ret_bool {a b : Bool} (h : a = b) : Ending.returned (.bool a) = .returned (.bool b) := by rw [h]
def holdsB (a b c d : Int) : Bool := decide (a ≤ c) && decide (d ≤ b)
def meetsB (a b c d : Int) : Bool := decide (max a c < min b d)

theorem holds_any (a b c d : Int) (w : World) :
    Calls Try.prog 12 #[.agg #[.int .i64 a, .int .i64 b], .agg #[.int .i64 c, .int .i64 d]] w fun e w' => e = .returned (.bool (holdsB a b c d)) ∧ Below w.heap.size w w' := by
  by_cases h1 : a ≤ c <;> by_cases h2 : d ≤ b
  all_goals
    go_enter Try.func12, Try.ntmps12
    go_wp2
    go_ret
    refine ⟨by simp [holdsB, h1, h2], ?_⟩
    exact ((Below.refl _ _).alloc (Nat.le_refl _) _).alloc (by simp) _

theorem meets_any (a b c d : Int) (w : World) :
    Calls Try.prog 13 #[.agg #[.int .i64 a, .int .i64 b], .agg #[.int .i64 c, .int .i64 d]] w fun e w' => e = .returned (.bool (meetsB a b c d)) ∧ Below w.heap.size w w' := by
  go_enter Try.func13, Try.ntmps13
  go_wp2
  all_goals
    go_ret
    refine ⟨ret_bool (by unfold meetsB; rw [Bool.eq_iff_iff]; simp only [decide_eq_true_eq]; omega), ?_⟩
    exact ((Below.refl _ _).alloc (Nat.le_refl _) _).alloc (by simp) _
/-- What was there below N in W0 is there in w, and w has as many blocks at least. -/
structure From (N : Nat) (W0 w : World) : Prop where
  size : N ≤ w.heap.size
  below : Below N W0 w

theorem From.step {N : Nat} {W0 w w1 : World} (h : From N W0 w) (hb : Below w.heap.size w w1) : From N W0 w1 :=
  ⟨Nat.le_trans h.size hb.size, h.below.trans (hb.mono h.size)⟩
theorem From.start (w : World) : From w.heap.size w w := ⟨Nat.le_refl _, Below.refl _ _⟩
theorem From.drew {N : Nat} {W0 w : World} (h : From N W0 w) : From N W0 w.drew := ⟨h.size, h.below.drew⟩
theorem From.alloc {N : Nat} {W0 w : World} (h : From N W0 w) (o : Obj) : From N W0 (w.alloc o) := ⟨by have := h.size; simp; omega, h.below.alloc h.size o⟩
theorem From.cells {N : Nat} {W0 w1 : World} (h : From N W0 w1) : (∀ b o, b < N → w1.cell? ⟨b, o, none⟩ = W0.cell? ⟨b, o, none⟩) ∧ (∀ b o, b < N → w1.frozen? ⟨b, o, none⟩ = W0.frozen? ⟨b, o, none⟩) :=
  ⟨fun b o hl => h.below.cell (p := ⟨b, o, none⟩) hl, fun b o hl => h.below.frozen (p := ⟨b, o, none⟩) hl⟩

theorem From.held {N : Nat} {W0 w : World} (h : From N W0 w) {b o : Nat} {v : Value} (hb : b < N) (hv : W0.cell? ⟨b, o, none⟩ = some v) : w.cell? ⟨b, o, none⟩ = some v :=
  (h.cells.1 b o hb).trans hv
theorem From.drewN {N : Nat} {W0 w : World} (h : From N W0 w) (n : Nat) : From N W0 (w.drewN n) := ⟨h.size, ⟨h.below.os, h.below.tape, h.below.output, h.below.size, h.below.block⟩⟩
end Go.Proofs.Ytacljmbeoekdoaa
