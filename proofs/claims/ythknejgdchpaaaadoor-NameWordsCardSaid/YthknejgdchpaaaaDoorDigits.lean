/-
  The document's Digits, below a hundred.
-/
import Derived.Test.YthknejgdchpaaaaDoorFreshN
import Derived.Laws.BytesString
namespace Go.Proofs.YthknejgdchpaaaaDoor
open Go.RowKit
set_option linter.unusedVariables false
set_option linter.unusedSimpArgs false

/-- 'string([]byte{x})'. -/
theorem cv (w : World) (n : Nat) (hn : n = w.heap.size) (x : Int) : (convert 39 9 (.slice (some ⟨n, 0, none⟩) 1 1)).run Tryd.prog (w.alloc (.cells #[.int .u8 x] 5)) = .ok (.string ⟨#[UInt8.ofNat x.toNat]⟩) (w.alloc (.cells #[.int .u8 x] 5)) := by
  subst hn
  rw [run_convert_bytes_string _ 39 9 5 _ _ _ Tryd.underlying39 Tryd.underlying5 Tryd.underlying9]
  have h := run_loadCells_list (P := Tryd.prog) (w.alloc (.cells #[.int .u8 x] 5)) ⟨w.heap.size, 0, none⟩ [.int .u8 x] (one_new w _ 5)
  rw [run_bytesToString _ _ 1 1 [x] h]
  rfl
set_option maxHeartbeats 1000000 in
theorem digits_any (q : Nat) (w : World) (h : q < 100) : Calls Tryd.prog 39 #[.int .i64 (q : Int)] w fun e w' => e = .returned (.string ⟨(Lib.decDigits q).toArray⟩) ∧ Below w.heap.size w w' := by
  by_cases h1 : q < 10
  · have HD := Lib.hid (dd_one q h1)
    have e1 : ((q : Int) / 10 == 0) = true := by rw [beq_iff_eq]; omega
    have e2 : (q : Int) % 10 = (q : Int) := by omega
    have c0 := cv w w.heap.size rfl (48 + (q : Int))
    have hd := add_run ⟨#[UInt8.ofNat (48 + (q : Int)).toNat]⟩ ⟨#[]⟩ (show 1 ≤ 1000000 by decide) (by decide)
    rw [app_nil] at hd
    have ht : (48 + (q : Int)).toNat = 48 + q := by omega
    rw [ht] at c0 hd
    generalize UInt8.ofNat (48 + q) = c at *
    go_enter Tryd.func39, Tryd.ntmps39
    go_wp2
    refine wp_loop_rounds 1 ?_
    rw [rounds_succ]
    go_wp2
    go_ret
    exact ⟨by rw [HD.out]; rfl, (Below.refl _ _).alloc (Nat.le_refl _) _⟩
  · have HD := Lib.hid (dd_two q (by omega) h)
    have e1 : ((q : Int) / 10 == 0) = false := by rw [beq_eq_false_iff_ne]; omega
    have e2 : (q : Int) / 10 % 10 = (q : Int) / 10 := by omega
    have e3 : ((q : Int) / 10 / 10 == 0) = true := by rw [beq_iff_eq]; omega
    have c0 := cv w w.heap.size rfl (48 + (q : Int) % 10)
    have c1 := cv (w.alloc (.cells #[.int .u8 (48 + (q : Int) % 10)] 5)) (w.heap.size + 1) (by simp) (48 + (q : Int) / 10)
    have ht : (48 + (q : Int) % 10).toNat = 48 + q % 10 := by omega
    have ht2 : (48 + (q : Int) / 10).toNat = 48 + q / 10 := by omega
    rw [ht] at c0
    rw [ht2] at c1
    generalize UInt8.ofNat (48 + q % 10) = c at *
    generalize UInt8.ofNat (48 + q / 10) = d at *
    have hd := add_run ⟨#[c]⟩ ⟨#[]⟩ (show 1 ≤ 1000000 by decide) (by decide)
    rw [app_nil] at hd
    have hd2 : ∀ w, (Op.stringOp .add ⟨#[d]⟩ ⟨#[c]⟩).run Tryd.prog w = .ok (.string ⟨#[d, c]⟩) w := add_run ⟨#[d]⟩ ⟨#[c]⟩ (show 1 ≤ 1000000 by decide) (show 1 ≤ 1000000 by decide)
    clear ht ht2
    go_enter Tryd.func39, Tryd.ntmps39
    go_wp2
    refine wp_loop_rounds 2 ?_
    rw [rounds_succ]
    go_wp2
    rw [rounds_succ]
    go_wp2
    go_ret
    exact ⟨by rw [HD.out]; rfl, ((Below.refl _ _).alloc (Nat.le_refl _) _).alloc (by simp) _⟩
end Go.Proofs.YthknejgdchpaaaaDoor
