/-
  May, Alike, Space, and the document's.
-/
import Derived.Test.YthknejgdchpaaaaDoorLevel
namespace Go.Proofs.YthknejgdchpaaaaDoor
open Go.RowKit
set_option linter.unusedVariables false
set_option linter.unusedSimpArgs false

def mayB (p : Int) (s : ByteArray) : Bool := bif p == 1 then (kindN s == 6 || kindN s == 9) else bif p == 3 then kindN s == 6 else (decide (2 ≤ p) && decide (p ≤ 6) && kindN s == 7)

set_option maxHeartbeats 1000000 in
theorem may_any (p : Int) (s : ByteArray) (w : World) (hk : Kw w) (hs : s.size ≤ 9223372036854775807) : Calls Tryd.prog 19 #[.int .i64 p, .string s] w fun e w' => e = .returned (.bool (mayB p s)) ∧ w = w' := by
  have HK := kind_any s w hk hs
  have HM : Hid (mayB p s = bif p == 1 then (kindN s == 6 || kindN s == 9) else bif p == 3 then kindN s == 6 else (decide (2 ≤ p) && decide (p ≤ 6) && kindN s == 7)) := Lib.hid rfl
  clear hk
  generalize kindN s = x at *
  by_cases h1 : p = 1
  · subst h1
    cases h9 : (x == 9)
    all_goals
      go_enter Tryd.func19, Tryd.ntmps19
      go_wp2_with (first | (go_at_call 12; refine HK.mono ?_; rintro e w1 ⟨rfl, rfl⟩))
      go_ret
      exact ⟨ret_bool (by rw [HM.out, h9]; simp), rfl⟩
  by_cases h3 : p = 3
  · subst h3
    go_enter Tryd.func19, Tryd.ntmps19
    go_wp2_with (first | (go_at_call 12; refine HK.mono ?_; rintro e w1 ⟨rfl, rfl⟩))
    go_ret
    exact ⟨ret_bool (by rw [HM.out]; rfl), rfl⟩
  by_cases h2 : p = 2
  · subst h2
    go_enter Tryd.func19, Tryd.ntmps19
    go_wp2_with (first | (go_at_call 12; refine HK.mono ?_; rintro e w1 ⟨rfl, rfl⟩))
    go_ret
    exact ⟨ret_bool (by rw [HM.out]; rfl), rfl⟩
  by_cases h4 : p = 4
  · subst h4
    go_enter Tryd.func19, Tryd.ntmps19
    go_wp2_with (first | (go_at_call 12; refine HK.mono ?_; rintro e w1 ⟨rfl, rfl⟩))
    go_ret
    exact ⟨ret_bool (by rw [HM.out]; rfl), rfl⟩
  by_cases h5 : p = 5
  · subst h5
    go_enter Tryd.func19, Tryd.ntmps19
    go_wp2_with (first | (go_at_call 12; refine HK.mono ?_; rintro e w1 ⟨rfl, rfl⟩))
    go_ret
    exact ⟨ret_bool (by rw [HM.out]; rfl), rfl⟩
  by_cases h6 : p = 6
  · subst h6
    go_enter Tryd.func19, Tryd.ntmps19
    go_wp2_with (first | (go_at_call 12; refine HK.mono ?_; rintro e w1 ⟨rfl, rfl⟩))
    go_ret
    exact ⟨ret_bool (by rw [HM.out]; rfl), rfl⟩
  have hf : Hid (mayB p s = false) := Lib.hid (by
    rw [HM.out]; simp only [beq_eq_false_iff_ne.2 h1, beq_eq_false_iff_ne.2 h3, cond_false]
    simp; omega)
  go_enter Tryd.func19, Tryd.ntmps19
  go_wp2_with (first | (go_at_call 12; refine HK.mono ?_; rintro e w1 ⟨rfl, rfl⟩))
  go_ret
  exact ⟨ret_bool hf.out.symm, rfl⟩

set_option maxHeartbeats 1000000 in
theorem refMay_any (p : Int) (s : ByteArray) (w : World) (hs : s.size ≤ 9223372036854775807) : Calls Tryd.prog 20 #[.int .i64 p, .string s] w fun e w' => e = .returned (.bool (mayB p s)) ∧ Below w.heap.size w w' := by
  have HK := refKind_any s w hs
  have HM : Hid (mayB p s = bif p == 1 then (kindN s == 6 || kindN s == 9) else bif p == 3 then kindN s == 6 else (decide (2 ≤ p) && decide (p ≤ 6) && kindN s == 7)) := Lib.hid rfl
  generalize kindN s = x at *
  by_cases h1 : p = 1
  · subst h1
    cases h6 : (x == 6)
    all_goals
      go_enter Tryd.func20, Tryd.ntmps20
      go_wp2_with (first | (go_at_call 13; refine HK.mono ?_; rintro e w1 ⟨rfl, hb⟩))
      go_ret
      exact ⟨ret_bool (by rw [HM.out, h6]; simp), hb⟩
  by_cases h3 : p = 3
  · subst h3
    go_enter Tryd.func20, Tryd.ntmps20
    go_wp2_with (first | (go_at_call 13; refine HK.mono ?_; rintro e w1 ⟨rfl, hb⟩))
    go_ret
    exact ⟨ret_bool (by rw [HM.out]; rfl), hb⟩
  rw [beq_eq_false_iff_ne.2 h1, beq_eq_false_iff_ne.2 h3] at HM
  by_cases h2 : 2 ≤ p
  · by_cases h6 : p ≤ 6
    · simp only [h2, h6, decide_true, cond_false, Bool.true_and] at HM
      go_enter Tryd.func20, Tryd.ntmps20
      go_wp2_with (first | (go_at_call 13; refine HK.mono ?_; rintro e w1 ⟨rfl, hb⟩))
      go_ret
      exact ⟨ret_bool (by rw [HM.out]), hb⟩
    · simp only [h2, h6, decide_true, decide_false, cond_false, Bool.false_and, Bool.and_false] at HM
      go_enter Tryd.func20, Tryd.ntmps20
      go_wp2_with (first | (go_at_call 13; refine HK.mono ?_; rintro e w1 ⟨rfl, hb⟩))
      go_ret
      exact ⟨ret_bool (by rw [HM.out]), hb⟩
  · simp only [h2, decide_false, cond_false, Bool.false_and] at HM
    go_enter Tryd.func20, Tryd.ntmps20
    go_wp2_with (first | (go_at_call 13; refine HK.mono ?_; rintro e w1 ⟨rfl, hb⟩))
    go_ret
    exact ⟨ret_bool (by rw [HM.out]), hb⟩
end Go.Proofs.YthknejgdchpaaaaDoor
