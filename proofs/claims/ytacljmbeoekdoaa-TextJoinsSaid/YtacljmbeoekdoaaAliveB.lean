/-
  The chapter's example: the calls at the texts that are written out there, in the second part.
-/
import Derived.Test.YtacljmbeoekdoaaAliveA
namespace Go.Proofs.Ytacljmbeoekdoaa
open Go.RowKit

theorem Below.on {B : Nat} {w w1 w2 : World} (h : Below B w w1) (hB : B ≤ w1.heap.size) (h2 : Below w1.heap.size w1 w2) : Below B w w2 := h.trans (h2.mono hB)

theorem line_abc (w : World) :
    Calls Try.prog 14 #[.string ⟨#[97, 10, 98, 99]⟩, .int .i64 3] w fun e w' => e = .returned (.tuple #[.int .i64 2, .int .i64 2, .int .i64 0]) ∧ Below w.heap.size w w' := by
  go_enter Try.func14, Try.ntmps14
  go_wp2_with (first | (go_at_call 20; refine (lineAt_abc _).mono ?_; rintro e w1 ⟨rfl, hb⟩; obtain ⟨hc, hf⟩ := bcell hb) | (go_at_call 19; go_in) | (go_at_call 8; go_in))
  go_region
  go_wp2
  go_returns
  refine ⟨rfl, ?_⟩
  exact ((Below.trans (by go_grown) (hb.mono (by simp))).alloc (by have := hb.size; simp at this; omega) _).drew

theorem clone_any (s : ByteArray) (w : World) (h : s.size ≤ 3000) :
    Calls Try.prog 18 #[.string s] w fun e w' => e = .returned (.string s) ∧ Below w.heap.size w w' := by
  go_enter Try.func18, Try.ntmps18
  go_wp2_with (go_at_call 26; refine (Try.stringslite_Clone _ _ (by omega)).mono ?_; rintro e w1 ⟨rfl, hb⟩)
  go_ret
  exact ⟨rfl, hb⟩

theorem skip_a_b (w : World) :
    Calls Try.prog 23 #[.string ⟨#[97, 10, 32, 32, 98]⟩, .agg #[.int .i64 2, .int .i64 5], .func (.func 24) #[] #[]] w fun e w' => e = .returned (.int .i64 4) ∧ Below w.heap.size w w' := by
  go_enter Try.func23, Try.ntmps23
  go_wp2
  refine wp_loop_rounds 3 ?_
  rw [rounds_succ]
  go_wp2
  rw [rounds_succ]
  go_wp2
  rw [rounds_succ]
  go_wp2
  go_ret
  exact ⟨rfl, by go_grown⟩

theorem indent_a_b (w : World) :
    Calls Try.prog 16 #[.string ⟨#[97, 10, 32, 32, 98]⟩, .int .i64 4] w fun e w' => e = .returned (.tuple #[.string ⟨#[32, 32]⟩, .int .i64 0]) ∧ Below w.heap.size w w' := by
  go_enter Try.func16, Try.ntmps16
  go_wp2_with (first | (go_at_call 20; refine (lineAt_a_b _).mono ?_; rintro e w1 ⟨rfl, hb⟩; obtain ⟨hc, hf⟩ := bcell hb) | (go_at_call 23; refine (skip_a_b _).mono ?_; rintro e w2 ⟨rfl, hb2⟩; obtain ⟨hc2, hf2⟩ := bcell hb2) | (go_at_call 19; go_in) | (go_at_call 8; go_in) | (go_at_call 7; go_in) | (go_at_call 18; refine (clone_any _ _ (by decide)).mono ?_; rintro e w3 ⟨rfl, hb3⟩))
  have z1 := hb.size
  have z2 := hb2.size
  have z3 := hb3.size
  simp only [World.size_alloc] at z1 z2 z3
  go_returns
  refine ⟨rfl, ?_⟩
  have b1 : Below w.heap.size w w1 := Below.on (by go_grown) (by simp) hb
  have b2 : Below w.heap.size w w2 := Below.on (b1.alloc (by omega) _) (by simp; omega) hb2
  exact Below.on ((b2.alloc (by omega) _).alloc (by simp; omega) _) (by simp; omega) hb3

theorem alive_any (w : World) :
    Calls Try.prog 6 #[] w fun e w' => e = .returned (.bool true) ∧ Below w.heap.size w w' := by
  go_enter Try.func6, Try.ntmps6
  go_wp2_with fail
  refine (line_abc _).mono ?_
  rintro e w1 ⟨rfl, hb1⟩
  go_wp2_with fail
  refine (place_abc _).mono ?_
  rintro e w2 ⟨rfl, hb2⟩
  go_wp2_with fail
  refine (indent_a_b _).mono ?_
  rintro e w3 ⟨rfl, hb3⟩
  go_wp2_with (first | (go_at_call 10; go_in) | (go_at_call 17; refine (lines_ab _).mono ?_; rintro e w4 ⟨rfl, hb4⟩))
  go_ret
  exact ⟨rfl, ((hb1.trans (hb2.mono hb1.size)).trans (hb3.mono (Nat.le_trans hb1.size hb2.size))).trans (hb4.mono (Nat.le_trans (Nat.le_trans hb1.size hb2.size) hb3.size))⟩
end Go.Proofs.Ytacljmbeoekdoaa
