/-
  The walk of TextJoins: the first or the second part is not there; no spans.
-/
import Derived.Test.YtacljmbeoekdoaaSeen
import Derived.Lib.QuietBelow
import Derived.BigQuiet
import Derived.Deep.LoopGhost
import Derived.Deep.DeepCutAuto
namespace Go.Proofs.Ytacljmbeoekdoaa
open Go.RowKit
open Go.Sort (grow)
set_option linter.unusedVariables false
set_option maxRecDepth 100000 in
set_option maxHeartbeats 4000000 in
theorem joins_no1_nil (w : World) (s : ByteArray) (a b c : Int) (HN : Hid (¬ InText s a b)) (hs1 : s.size ≤ 1000)  :
    Calls Try.prog 4 #[.string s, .int .i64 a, .int .i64 b, .int .i64 c, .slice none 0 0] w fun e w' => e = .returned (.bool true) ∧ Below w.heap.size w w' := by
  have hs : s.size ≤ 3000 := by omega
  go_enter Try.func4, Try.ntmps4
  go_wp2_with fail
  refine (part_refused s a b hs HN.out _).mono ?_
  rintro e w1 ⟨x1, z1, rfl, hb1⟩
  go_wp2_with fail
  refine (part_some s b c hs _).mono ?_
  rintro e w2 ⟨x2, n2, l2, g2, z2, rfl, hb2⟩
  go_wp2_with fail
  refine (part_some s a c hs _).mono ?_
  rintro e w3 ⟨x3, n3, l3, g3, z3, rfl, hb3⟩
  have hb := (hb1.trans (hb2.mono hb1.size)).trans (hb3.mono (Nat.le_trans hb1.size hb2.size))
  have hne : ((2 + n2 : Int) == 0) = false := by rw [beq_eq_false_iff_ne]; omega
  have hz : w.heap.size ≤ w3.heap.size := hb.size
  have HB := Lib.hid hb
  clear hb1 hb2 hb3 hb
  go_wp2_with (first | (go_at_call 10; refine (no_any _ _).mono ?_; rintro e w' ⟨rfl, rfl⟩) | (go_at_call 11; refine (cover_none _).mono ?_; rintro e w4 ⟨rfl, hb4⟩))
  refine wp_loop_rounds 1 ?_
  rw [rounds_succ]
  go_wp2_with (go_at_call 6; refine (alive_any _).mono ?_; rintro e w5 ⟨rfl, hb5⟩)
  go_ret
  have hz4 := hb4.size
  exact ⟨rfl, Below.on ((Below.on HB.out (by omega) hb4).alloc (by omega) _) (by simp; omega) hb5⟩
set_option maxRecDepth 100000 in
set_option maxHeartbeats 4000000 in
theorem joins_no1_empty (w : World) (s : ByteArray) (a b c : Int) (HN : Hid (¬ InText s a b)) (hs1 : s.size ≤ 1000) (a0 : Addr) (cap : Nat) :
    Calls Try.prog 4 #[.string s, .int .i64 a, .int .i64 b, .int .i64 c, .slice (some a0) 0 cap] w fun e w' => e = .returned (.bool true) ∧ Below w.heap.size w w' := by
  have hs : s.size ≤ 3000 := by omega
  go_enter Try.func4, Try.ntmps4
  go_wp2_with fail
  refine (part_refused s a b hs HN.out _).mono ?_
  rintro e w1 ⟨x1, z1, rfl, hb1⟩
  go_wp2_with fail
  refine (part_some s b c hs _).mono ?_
  rintro e w2 ⟨x2, n2, l2, g2, z2, rfl, hb2⟩
  go_wp2_with fail
  refine (part_some s a c hs _).mono ?_
  rintro e w3 ⟨x3, n3, l3, g3, z3, rfl, hb3⟩
  have hb := (hb1.trans (hb2.mono hb1.size)).trans (hb3.mono (Nat.le_trans hb1.size hb2.size))
  have hne : ((2 + n2 : Int) == 0) = false := by rw [beq_eq_false_iff_ne]; omega
  have hz : w.heap.size ≤ w3.heap.size := hb.size
  have HB := Lib.hid hb
  clear hb1 hb2 hb3 hb
  go_wp2_with (first | (go_at_call 10; refine (no_any _ _).mono ?_; rintro e w' ⟨rfl, rfl⟩) | (go_at_call 11; refine (cover_empty _ _ _).mono ?_; rintro e w4 ⟨rfl, hb4⟩))
  refine wp_loop_rounds 1 ?_
  rw [rounds_succ]
  go_wp2_with (go_at_call 6; refine (alive_any _).mono ?_; rintro e w5 ⟨rfl, hb5⟩)
  go_ret
  have hz4 := hb4.size
  exact ⟨rfl, Below.on ((Below.on HB.out (by omega) hb4).alloc (by omega) _) (by simp; omega) hb5⟩
set_option maxRecDepth 100000 in
set_option maxHeartbeats 4000000 in
theorem joins_no2_nil (w : World) (s : ByteArray) (a b c : Int) (HN : Hid (¬ InText s b c)) (hs1 : s.size ≤ 1000)  :
    Calls Try.prog 4 #[.string s, .int .i64 a, .int .i64 b, .int .i64 c, .slice none 0 0] w fun e w' => e = .returned (.bool true) ∧ Below w.heap.size w w' := by
  have hs : s.size ≤ 3000 := by omega
  go_enter Try.func4, Try.ntmps4
  go_wp2_with fail
  refine (part_some s a b hs _).mono ?_
  rintro e w1 ⟨x1, n1, l1, g1, z1, rfl, hb1⟩
  go_wp2_with fail
  refine (part_refused s b c hs HN.out _).mono ?_
  rintro e w2 ⟨x2, z2, rfl, hb2⟩
  go_wp2_with fail
  refine (part_some s a c hs _).mono ?_
  rintro e w3 ⟨x3, n3, l3, g3, z3, rfl, hb3⟩
  have hb := (hb1.trans (hb2.mono hb1.size)).trans (hb3.mono (Nat.le_trans hb1.size hb2.size))
  have hne : ((n1 + 2 : Int) == 0) = false := by rw [beq_eq_false_iff_ne]; omega
  have hz : w.heap.size ≤ w3.heap.size := hb.size
  have HB := Lib.hid hb
  clear hb1 hb2 hb3 hb
  go_wp2_with (first | (go_at_call 10; refine (no_any _ _).mono ?_; rintro e w' ⟨rfl, rfl⟩) | (go_at_call 11; refine (cover_none _).mono ?_; rintro e w4 ⟨rfl, hb4⟩))
  refine wp_loop_rounds 1 ?_
  rw [rounds_succ]
  go_wp2_with (go_at_call 6; refine (alive_any _).mono ?_; rintro e w5 ⟨rfl, hb5⟩)
  go_ret
  have hz4 := hb4.size
  exact ⟨rfl, Below.on ((Below.on HB.out (by omega) hb4).alloc (by omega) _) (by simp; omega) hb5⟩
set_option maxRecDepth 100000 in
set_option maxHeartbeats 4000000 in
theorem joins_no2_empty (w : World) (s : ByteArray) (a b c : Int) (HN : Hid (¬ InText s b c)) (hs1 : s.size ≤ 1000) (a0 : Addr) (cap : Nat) :
    Calls Try.prog 4 #[.string s, .int .i64 a, .int .i64 b, .int .i64 c, .slice (some a0) 0 cap] w fun e w' => e = .returned (.bool true) ∧ Below w.heap.size w w' := by
  have hs : s.size ≤ 3000 := by omega
  go_enter Try.func4, Try.ntmps4
  go_wp2_with fail
  refine (part_some s a b hs _).mono ?_
  rintro e w1 ⟨x1, n1, l1, g1, z1, rfl, hb1⟩
  go_wp2_with fail
  refine (part_refused s b c hs HN.out _).mono ?_
  rintro e w2 ⟨x2, z2, rfl, hb2⟩
  go_wp2_with fail
  refine (part_some s a c hs _).mono ?_
  rintro e w3 ⟨x3, n3, l3, g3, z3, rfl, hb3⟩
  have hb := (hb1.trans (hb2.mono hb1.size)).trans (hb3.mono (Nat.le_trans hb1.size hb2.size))
  have hne : ((n1 + 2 : Int) == 0) = false := by rw [beq_eq_false_iff_ne]; omega
  have hz : w.heap.size ≤ w3.heap.size := hb.size
  have HB := Lib.hid hb
  clear hb1 hb2 hb3 hb
  go_wp2_with (first | (go_at_call 10; refine (no_any _ _).mono ?_; rintro e w' ⟨rfl, rfl⟩) | (go_at_call 11; refine (cover_empty _ _ _).mono ?_; rintro e w4 ⟨rfl, hb4⟩))
  refine wp_loop_rounds 1 ?_
  rw [rounds_succ]
  go_wp2_with (go_at_call 6; refine (alive_any _).mono ?_; rintro e w5 ⟨rfl, hb5⟩)
  go_ret
  have hz4 := hb4.size
  exact ⟨rfl, Below.on ((Below.on HB.out (by omega) hb4).alloc (by omega) _) (by simp; omega) hb5⟩
end Go.Proofs.Ytacljmbeoekdoaa
