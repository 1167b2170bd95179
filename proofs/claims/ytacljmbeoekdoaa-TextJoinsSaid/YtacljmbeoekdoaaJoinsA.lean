/-
  The walk of TextJoins: both parts are there; no spans.
-/
import Derived.Test.YtacljmbeoekdoaaSeen
import Derived.Lib.QuietBelow
import Derived.BigQuiet
import Derived.Deep.LoopGhost
import Derived.Deep.DeepCutAuto
namespace Go.Proofs.Ytacljmbeoekdoaa
open Go.RowKit
open Go.Sort (grow)
set_option linter.unusedVariables false
set_option maxRecDepth 100000 in
set_option maxHeartbeats 4000000 in
theorem joins_yes_nil (w : World) (s : ByteArray) (i j k : Nat) (hi : i ≤ j) (hj : j ≤ k) (hk : k ≤ s.size) (hs1 : s.size ≤ 1000)  :
    Calls Try.prog 4 #[.string s, .int .i64 ↑i, .int .i64 ↑j, .int .i64 ↑k, .slice none 0 0] w fun e w' => e = .returned (.bool true) ∧ Below w.heap.size w w' := by
  have hs : s.size ≤ 3000 := by omega
  go_enter Try.func4, Try.ntmps4
  go_wp2_with fail
  refine (part_yes s i j hs hi (by omega) _).mono ?_
  rintro e w1 ⟨rfl, hb1⟩
  go_wp2_with fail
  refine (part_yes s j k hs hj hk _).mono ?_
  rintro e w2 ⟨rfl, hb2⟩
  go_wp2_with fail
  refine (part_yes s i k hs (by omega) hk _).mono ?_
  rintro e w3 ⟨rfl, hb3⟩
  have hb := (hb1.trans (hb2.mono hb1.size)).trans (hb3.mono (Nat.le_trans hb1.size hb2.size))
  have hcat := extract_on s i j k hi hj
  have hz : w.heap.size ≤ w3.heap.size := hb.size
  have HB := Lib.hid hb
  clear hb1 hb2 hb3 hb
  go_wp2_with (first | (go_at_call 10; refine (no_any _ _).mono ?_; rintro e w' ⟨rfl, rfl⟩) | (go_at_call 11; refine (cover_none _).mono ?_; rintro e w4 ⟨rfl, hb4⟩))
  refine wp_loop_rounds 1 ?_
  rw [rounds_succ]
  go_wp2_with (go_at_call 6; refine (alive_any _).mono ?_; rintro e w5 ⟨rfl, hb5⟩)
  go_ret
  have hz4 := hb4.size
  exact ⟨rfl, Below.on ((Below.on HB.out (by omega) hb4).alloc (by omega) _) (by simp; omega) hb5⟩
set_option maxRecDepth 100000 in
set_option maxHeartbeats 4000000 in
theorem joins_yes_empty (w : World) (s : ByteArray) (i j k : Nat) (hi : i ≤ j) (hj : j ≤ k) (hk : k ≤ s.size) (hs1 : s.size ≤ 1000) (a0 : Addr) (cap : Nat) :
    Calls Try.prog 4 #[.string s, .int .i64 ↑i, .int .i64 ↑j, .int .i64 ↑k, .slice (some a0) 0 cap] w fun e w' => e = .returned (.bool true) ∧ Below w.heap.size w w' := by
  have hs : s.size ≤ 3000 := by omega
  go_enter Try.func4, Try.ntmps4
  go_wp2_with fail
  refine (part_yes s i j hs hi (by omega) _).mono ?_
  rintro e w1 ⟨rfl, hb1⟩
  go_wp2_with fail
  refine (part_yes s j k hs hj hk _).mono ?_
  rintro e w2 ⟨rfl, hb2⟩
  go_wp2_with fail
  refine (part_yes s i k hs (by omega) hk _).mono ?_
  rintro e w3 ⟨rfl, hb3⟩
  have hb := (hb1.trans (hb2.mono hb1.size)).trans (hb3.mono (Nat.le_trans hb1.size hb2.size))
  have hcat := extract_on s i j k hi hj
  have hz : w.heap.size ≤ w3.heap.size := hb.size
  have HB := Lib.hid hb
  clear hb1 hb2 hb3 hb
  go_wp2_with (first | (go_at_call 10; refine (no_any _ _).mono ?_; rintro e w' ⟨rfl, rfl⟩) | (go_at_call 11; refine (cover_empty _ _ _).mono ?_; rintro e w4 ⟨rfl, hb4⟩))
  refine wp_loop_rounds 1 ?_
  rw [rounds_succ]
  go_wp2_with (go_at_call 6; refine (alive_any _).mono ?_; rintro e w5 ⟨rfl, hb5⟩)
  go_ret
  have hz4 := hb4.size
  exact ⟨rfl, Below.on ((Below.on HB.out (by omega) hb4).alloc (by omega) _) (by simp; omega) hb5⟩
end Go.Proofs.Ytacljmbeoekdoaa
