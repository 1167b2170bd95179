/-
  Kind, by the way of the program.
-/
import Derived.Test.YtkjgkchdkeggoaaGreatDoorAll
namespace Go.Proofs.YtkjgkchdkeggoaaGreatDoor
open Go.RowKit
set_option linter.unusedVariables false
set_option linter.unusedSimpArgs false

theorem kind_six (s : ByteArray) (h : begN s = 6) : kindN s = bif kwB s then 10 else bif allR (s.extract 1 s.size) then 6 else 0 := by
  have hm := mk_not s (.inl h)
  have hf := (beg_first s (.inl h)).2
  unfold kindN
  rw [hm, h, ← hf]
  cases hk : kwB s
  · cases allR s <;> rfl
  · rw [(kw_beg s hk).2]; rfl
theorem kind_seven (s : ByteArray) (x : Int) (hx : x = 7 ∨ x = 8) (h : begN s = x) : kindN s = bif allR (s.extract 1 s.size) then x else 0 := by
  have hm := mk_not s (by omega)
  have hf := (beg_first s (by omega)).2
  have hk := kw_not s (by omega)
  unfold kindN
  rw [hm, h, ← hf, hk]
  rcases hx with e | e <;> subst e <;> cases allR s <;> rfl
theorem kind_nine (s : ByteArray) (h : begN s = 9) : kindN s = bif allS s && !mkB s then 9 else bif mkB s then 11 else 0 := by
  unfold kindN
  rw [h]
  cases mkB s <;> cases allS s <;> rfl
theorem kind_zero (s : ByteArray) (h : begN s = 0) : kindN s = bif mkB s then 11 else 0 := by
  unfold kindN
  rw [h]
  cases mkB s <;> rfl

set_option maxHeartbeats 1000000 in
theorem kind_any (s : ByteArray) (w : World) (hk : Kw w) (hs : s.size ≤ 9223372036854775807) : Calls Tryz.prog 122 #[.string s] w fun e w' => e = .returned (.int .i64 (kindN s)) ∧ w = w' := by
  have HB := begun_any s w hs
  have HM := mark_any s w
  rcases beg_cases s with h | h | h | h | h
  · have HN := Lib.hid (kind_zero s h)
    rw [h] at HB
    clear h hk
    cases hm : mkB s <;> simp only [hm, cond_true, cond_false] at HN HM <;> clear hm
    all_goals
      go_enter Tryz.func122, Tryz.ntmps122
      go_wp2_with (first | (go_at_call 127; refine HB.mono ?_; rintro e w1 ⟨rfl, rfl⟩) | (go_at_call 132; refine HM.mono ?_; rintro e w1 ⟨rfl, rfl⟩))
      go_ret
      exact ⟨ret_int HN.out.symm, rfl⟩
  · have HN := Lib.hid (kind_six s h)
    have hp := (beg_first s (.inl h)).1
    have HK := keyword_any s w hk
    have HA := allR_any (s.extract 1 s.size) w (by simp; omega)
    rw [h] at HB
    clear h hk
    cases hm : kwB s
    case true =>
      simp only [hm, cond_true, cond_false] at HN HK
      clear hm HA
      go_enter Tryz.func122, Tryz.ntmps122
      go_wp2_with (first | (go_at_call 127; refine HB.mono ?_; rintro e w1 ⟨rfl, rfl⟩) | (go_at_call 128; refine HK.mono ?_; rintro e w1 ⟨rfl, rfl⟩))
      go_ret
      exact ⟨ret_int HN.out.symm, rfl⟩
    simp only [hm, cond_true, cond_false] at HN HK
    clear hm
    cases hm : allR (s.extract 1 s.size) <;> simp only [hm, cond_true, cond_false] at HN HA <;> clear hm
    all_goals
      go_enter Tryz.func122, Tryz.ntmps122
      go_wp2_with (first | (go_at_call 127; refine HB.mono ?_; rintro e w1 ⟨rfl, rfl⟩) | (go_at_call 128; refine HK.mono ?_; rintro e w1 ⟨rfl, rfl⟩) | (go_at_call 129; refine HA.mono ?_; rintro e w1 ⟨rfl, rfl⟩))
      go_ret
      exact ⟨ret_int HN.out.symm, rfl⟩
  · have HN := Lib.hid (kind_seven s 7 (.inl rfl) h)
    have hp := (beg_first s (.inr (.inl h))).1
    have HA := allR_any (s.extract 1 s.size) w (by simp; omega)
    rw [h] at HB
    clear h hk
    cases hm : allR (s.extract 1 s.size) <;> simp only [hm, cond_true, cond_false] at HN HA <;> clear hm
    all_goals
      go_enter Tryz.func122, Tryz.ntmps122
      go_wp2_with (first | (go_at_call 127; refine HB.mono ?_; rintro e w1 ⟨rfl, rfl⟩) | (go_at_call 129; refine HA.mono ?_; rintro e w1 ⟨rfl, rfl⟩))
      go_ret
      exact ⟨ret_int HN.out.symm, rfl⟩
  · have HN := Lib.hid (kind_seven s 8 (.inr rfl) h)
    have hp := (beg_first s (.inr (.inr h))).1
    have HA := allR_any (s.extract 1 s.size) w (by simp; omega)
    rw [h] at HB
    clear h hk
    cases hm : allR (s.extract 1 s.size) <;> simp only [hm, cond_true, cond_false] at HN HA <;> clear hm
    all_goals
      go_enter Tryz.func122, Tryz.ntmps122
      go_wp2_with (first | (go_at_call 127; refine HB.mono ?_; rintro e w1 ⟨rfl, rfl⟩) | (go_at_call 129; refine HA.mono ?_; rintro e w1 ⟨rfl, rfl⟩))
      go_ret
      exact ⟨ret_int HN.out.symm, rfl⟩
  · have HN := Lib.hid (kind_nine s h)
    have HA := allS_any s w hs
    rw [h] at HB
    clear h hk
    cases hm : mkB s <;> cases ha : allS s <;> simp only [hm, ha, cond_true, cond_false, Bool.not_true, Bool.not_false, Bool.and_true, Bool.and_false] at HN HM HA <;> clear hm ha
    all_goals
      go_enter Tryz.func122, Tryz.ntmps122
      go_wp2_with (first | (go_at_call 127; refine HB.mono ?_; rintro e w1 ⟨rfl, rfl⟩) | (go_at_call 129; refine HA.mono ?_; rintro e w1 ⟨rfl, rfl⟩) | (go_at_call 132; refine HM.mono ?_; rintro e w1 ⟨rfl, rfl⟩))
      go_ret
      exact ⟨ret_int HN.out.symm, rfl⟩
end Go.Proofs.YtkjgkchdkeggoaaGreatDoor
