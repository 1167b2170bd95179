/-
  The walk of TextParts: for any text and any two spans it returns true, and nothing that was there before is written.
-/
import Derived.Test.YtacljmbeoekdoaaParts
import Derived.Lib.QuietBelow
import Derived.BigQuiet
import Derived.Lib.MinMax
import Derived.Deep.DeepCutAuto
namespace Go.Proofs.Ytacljmbeoekdoaa
open Go.RowKit
open Go.Sort (grow)
set_option linter.unusedVariables false

set_option maxRecDepth 100000 in
set_option maxHeartbeats 4000000 in
theorem parts_left_b (w : World) (s : ByteArray) (a b : Int) (HN : Hid (¬ InText s a b)) (c d : Int) (hs : s.size ≤ 3000) (hac : c < a) :
    Calls Try.prog 3 #[.string s, .agg #[.int .i64 a, .int .i64 b], .agg #[.int .i64 c, .int .i64 d]] w fun e w' => e = .returned (.bool true) ∧ Below w.heap.size w w' := by
  have hF : From (w.heap.size + 2) ((w.alloc (.cells #[.int .i64 a, .int .i64 b] 23)).alloc (.cells #[.int .i64 c, .int .i64 d] 23)) ((w.alloc (.cells #[.int .i64 a, .int .i64 b] 23)).alloc (.cells #[.int .i64 c, .int .i64 d] 23)) := ⟨by simp, Below.refl _ _⟩
  have k0 : ((w.alloc (.cells #[.int .i64 a, .int .i64 b] 23)).alloc (.cells #[.int .i64 c, .int .i64 d] 23)).cell? ⟨w.heap.size, 0, none⟩ = some (.int .i64 a) := by simp [go_sem]
  have k1 : ((w.alloc (.cells #[.int .i64 a, .int .i64 b] 23)).alloc (.cells #[.int .i64 c, .int .i64 d] 23)).cell? ⟨w.heap.size, 1, none⟩ = some (.int .i64 b) := by simp [go_sem]
  have k2 : ((w.alloc (.cells #[.int .i64 a, .int .i64 b] 23)).alloc (.cells #[.int .i64 c, .int .i64 d] 23)).cell? ⟨w.heap.size + 1, 0, none⟩ = some (.int .i64 c) := by simp [go_sem]
  have k3 : ((w.alloc (.cells #[.int .i64 a, .int .i64 b] 23)).alloc (.cells #[.int .i64 c, .int .i64 d] 23)).cell? ⟨w.heap.size + 1, 1, none⟩ = some (.int .i64 d) := by simp [go_sem]
  have HH := Lib.hid hF
  have K0 := Lib.hid k0
  have K1 := Lib.hid k1
  have K2 := Lib.hid k2
  have K3 := Lib.hid k3
  clear hF k0 k1 k2 k3
  go_enter Try.func3, Try.ntmps3
  go_wp2_with (go_at_call 7; refine (part_no s a b hs HN.out _).mono ?_; rintro e w1 ⟨rfl, hb1⟩)
  have hF1 := HH.out.step hb1
  have c0 := hF1.held (by omega) K0.out
  have c1 := hF1.held (by omega) K1.out
  have c2 := hF1.held (by omega) K2.out
  have c3 := hF1.held (by omega) K3.out
  have q0 := fun dn os => cell_regrown c0 dn os
  have q1 := fun dn os => cell_regrown c1 dn os
  have F1 := Lib.hid hF1
  clear hb1 hF1 c2 c3
  refine wp_region_quiet_below (by kernel_rfl) (by kernel_rfl) ?_
  repeat (go_big_quiet_step (first | (go_at_call 8; exact Calls.regrown_of (right_no s a b hs HN.out _)) | (go_at_call 9; exact Calls.regrown_of (ref_no s a b hs HN.out _)) | (go_at_call 10; exact Calls.regrown_of ((no_any _ _).mono fun _ _ ⟨h1, h2⟩ => ⟨h1, by rw [h2]; exact Below.refl _ _⟩))))
  refine wpQuiet_nil ?_
  intro w2 hw2
  have hb2 : Below w1.heap.size w1 w2 := by obtain ⟨p, rfl⟩ := hw2; exact below_regrown _ _ _
  clear hw2 q0 q1 c0 c1
  have hF2 := F1.out.step hb2
  have c0 := hF2.held (by omega) K0.out
  have c1 := hF2.held (by omega) K1.out
  have c2 := hF2.held (by omega) K2.out
  have c3 := hF2.held (by omega) K3.out
  have z2 := hF2.size
  have F2 := Lib.hid hF2
  clear hF2 hb2
  go_wp2_with (go_at_call 10; refine (no_any _ _).mono ?_; rintro e w' ⟨rfl, rfl⟩)
  refine (cover_two _ _ a b c d (min a c) (max b d) rfl rfl (by simp [go_sem]) (by simp [go_sem]) (by simp [go_sem]) (by simp [go_sem]) (by simp)).mono ?_
  rintro e w3 ⟨rfl, hb3⟩
  have F3 := Lib.hid ((F2.out.alloc _).step hb3)
  clear hb3 c0 c1 c2 c3 z2
  go_wp2_with fail
  refine (cover_none _).mono ?_
  rintro e w4 ⟨rfl, hb4⟩
  have hF4 := (F3.out.alloc _).step hb4
  have d0 := hb4.cell (p := ⟨w3.heap.size, 0, none⟩) (by simp)
  have d1 := hb4.cell (p := ⟨w3.heap.size, 1, none⟩) (by simp)
  simp [go_sem] at d0 d1
  have c0 := hF4.held (by omega) K0.out
  have c1 := hF4.held (by omega) K1.out
  have c2 := hF4.held (by omega) K2.out
  have c3 := hF4.held (by omega) K3.out
  have z4 := hF4.size
  have z3 := hb4.size
  simp at z3
  have F4 := Lib.hid hF4
  clear hF4 hb4
  have F5 := Lib.hid (F4.out.alloc (.cells #[.int .i64 0, .int .i64 0] 23))
  have g0 := F5.out.held (by omega) K0.out
  have g1 := F5.out.held (by omega) K1.out
  have g2 := F5.out.held (by omega) K2.out
  have g3 := F5.out.held (by omega) K3.out
  have g4 : (w4.alloc (.cells #[.int .i64 0, .int .i64 0] 23)).cell? ⟨w3.heap.size, 0, none⟩ = some (.int .i64 (min a c)) := by rw [World.cell?_alloc_past _ _ _ z3]; exact d0
  have g5 : (w4.alloc (.cells #[.int .i64 0, .int .i64 0] 23)).cell? ⟨w3.heap.size, 1, none⟩ = some (.int .i64 (max b d)) := by rw [World.cell?_alloc_past _ _ _ z3]; exact d1
  clear c0 c1 c2 c3 d0 d1 z3 z4
  go_upto_region 10 with fail
  go_cut [13] (fun s13 wx => s13 = .bool (meetsB a b c d) ∧ wx = w4.alloc (.cells #[.int .i64 0, .int .i64 0] 23))
  case first =>
    go_wp2
    all_goals (go_meet; exact ⟨val_bool (by first | exact meets_no (by omega) | exact meets_is (by omega)), rfl⟩)
  case rest =>
    obtain ⟨rfl, rfl⟩ := hcut
    have hhv : holdsB a b c d = false := holds_nok (by omega)
    have q0 := fun dn os => cell_regrown g0 dn os
    have q1 := fun dn os => cell_regrown g1 dn os
    have q2 := fun dn os => cell_regrown g2 dn os
    have q3 := fun dn os => cell_regrown g3 dn os
    have q4 := fun dn os => cell_regrown g4 dn os
    have q5 := fun dn os => cell_regrown g5 dn os
    clear g0 g1 g2 g3 g4 g5
    go_wp2_with fail
    have hnc : ¬ a ≤ c := by omega
    refine wp_region_quiet_below (by kernel_rfl) (by kernel_rfl) ?_
    repeat (go_big_quiet_step (first | (go_at_call 12; exact Calls.regrown_of ((holds_any _ _ _ _ _).mono fun _ _ ⟨h1, h2⟩ => ⟨h1.trans (ret_bool hhv), h2⟩)) | (go_at_call 13; exact Calls.regrown_of (meets_any _ _ _ _ _)) | (go_at_call 6; exact Calls.regrown_of (alive_any _))))
    refine wpQuiet_nil ?_
    intro w6 hw6
    have hb6 : Below (w4.alloc (.cells #[.int .i64 0, .int .i64 0] 23)).heap.size (w4.alloc (.cells #[.int .i64 0, .int .i64 0] 23)) w6 := by obtain ⟨p, rfl⟩ := hw6; exact below_regrown _ _ _
    have hF6 := F5.out.step hb6
    clear hw6 hb6 q0 q1 q2 q3 q4 q5
    go_wp2
    go_ret
    exact ⟨rfl, Below.trans (by go_grown) (hF6.below.mono (by omega))⟩
end Go.Proofs.Ytacljmbeoekdoaa
