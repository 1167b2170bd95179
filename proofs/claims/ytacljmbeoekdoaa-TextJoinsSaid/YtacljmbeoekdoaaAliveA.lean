/-
  The chapter's example: the calls at the texts that are written out there.
-/
import Derived.Test.YtacljmbeoekdoaaRows
import Derived.Test.YtacljmbeoekdoaaShelf
import Derived.WalkKit
import Derived.Below
import Derived.Handy
import Derived.WalkMore
namespace Go.Proofs.Ytacljmbeoekdoaa
open Go.RowKit

theorem index_at (s : ByteArray) (n : Int) (h : Lib.indexByte s.data.toList 10 = n) (w : World) :
    Calls Try.prog 28 #[.string s, .int .u8 10] w fun e w' => e = .returned (.int .i64 n) ∧ w = w' := by
  refine (Try.strings_IndexByte s 10 w).mono ?_
  rintro e w' ⟨rfl, rfl⟩
  exact ⟨by rw [← h]; rfl, rfl⟩

theorem makes (fn : Fn) (first cap : Array Value) (w : World) : (Instr.makeFunc fn first cap).run Try.prog w = .ok (.func fn first cap) w := rfl

theorem bcell {W w1 : World} (hb : Below W.heap.size W w1) : (∀ b o, b < W.heap.size → w1.cell? ⟨b, o, none⟩ = W.cell? ⟨b, o, none⟩) ∧ (∀ b o, b < W.heap.size → w1.frozen? ⟨b, o, none⟩ = W.frozen? ⟨b, o, none⟩) :=
  ⟨fun b o h => hb.cell (p := ⟨b, o, none⟩) h, fun b o h => hb.frozen (p := ⟨b, o, none⟩) h⟩

theorem lines_ab (w : World) :
    Calls Try.prog 17 #[.string ⟨#[97, 10, 98]⟩] w fun e w' => e = .returned (.int .i64 2) ∧ Below w.heap.size w w' := by
  have hmf := makes
  go_enter Try.func17, Try.ntmps17
  go_wp2
  go_step3
  go_wp2
  go_step3
  go_wp2
  refine wp_loop_rounds 2 ?_
  rw [rounds_succ]
  go_wp2_with fail
  refine (index_at _ 1 (by decide) _).mono ?_
  rintro e w1 ⟨rfl, rfl⟩
  go_wp2
  rw [rounds_succ]
  go_wp2_with fail
  refine (index_at _ (-1) (by decide) _).mono ?_
  rintro e w1 ⟨rfl, rfl⟩
  go_wp2
  simp only [Exit.noGoto]
  go_end0
  go_wp2
  go_ret
  exact ⟨rfl, by go_grown⟩

theorem lineAt_abc (w : World) :
    Calls Try.prog 20 #[.string ⟨#[97, 10, 98, 99]⟩, .int .i64 3] w fun e w' => e = .returned (.tuple #[.int .i64 2, .agg #[.int .i64 2, .int .i64 4]]) ∧ Below w.heap.size w w' := by
  have hmf := makes
  go_enter Try.func20, Try.ntmps20
  go_wp2
  go_step3
  go_wp2
  go_step3
  go_wp2
  refine wp_loop_rounds 2 ?_
  rw [rounds_succ]
  go_wp2_with fail
  refine (index_at _ 1 (by decide) _).mono ?_
  rintro e w1 ⟨rfl, rfl⟩
  go_wp2
  go_region
  go_wp2
  rw [rounds_succ]
  go_wp2_with fail
  refine (index_at _ (-1) (by decide) _).mono ?_
  rintro e w1 ⟨rfl, rfl⟩
  go_wp2
  go_region
  go_wp2
  simp only [Exit.noGoto]
  go_end0
  go_wp2
  go_region
  go_wp2
  go_returns
  exact ⟨rfl, by go_grown⟩

theorem lineAt_a_b (w : World) :
    Calls Try.prog 20 #[.string ⟨#[97, 10, 32, 32, 98]⟩, .int .i64 4] w fun e w' => e = .returned (.tuple #[.int .i64 2, .agg #[.int .i64 2, .int .i64 5]]) ∧ Below w.heap.size w w' := by
  have hmf := makes
  go_enter Try.func20, Try.ntmps20
  go_wp2
  go_step3
  go_wp2
  go_step3
  go_wp2
  refine wp_loop_rounds 2 ?_
  rw [rounds_succ]
  go_wp2_with fail
  refine (index_at _ 1 (by decide) _).mono ?_
  rintro e w1 ⟨rfl, rfl⟩
  go_wp2
  go_region
  go_wp2
  rw [rounds_succ]
  go_wp2_with fail
  refine (index_at _ (-1) (by decide) _).mono ?_
  rintro e w1 ⟨rfl, rfl⟩
  go_wp2
  go_region
  go_wp2
  simp only [Exit.noGoto]
  go_end0
  go_wp2
  go_region
  go_wp2
  go_returns
  exact ⟨rfl, by go_grown⟩

theorem place_abc (w : World) :
    Calls Try.prog 15 #[.string ⟨#[97, 10, 98, 99]⟩, .int .i64 2, .int .i64 3] w fun e w' => e = .returned (.tuple #[.int .i64 4, .int .i64 0]) ∧ Below w.heap.size w w' := by
  have hmf := makes
  go_enter Try.func15, Try.ntmps15
  go_wp2
  go_step3
  go_wp2
  go_step3
  go_wp2
  refine wp_loop_rounds 2 ?_
  rw [rounds_succ]
  go_wp2_with fail
  refine (index_at _ 1 (by decide) _).mono ?_
  rintro e w1 ⟨rfl, rfl⟩
  go_wp2
  rw [rounds_succ]
  go_wp2_with fail
  refine (index_at _ (-1) (by decide) _).mono ?_
  rintro e w1 ⟨rfl, rfl⟩
  go_wp2
  simp only [Exit.noGoto]
  go_end0
  go_wp2
  go_region
  go_wp2
  go_returns
  exact ⟨rfl, by go_grown⟩

end Go.Proofs.Ytacljmbeoekdoaa
