/-
  NameOne, walked.
-/
import Derived.Test.YthknejgdchpaaaaDoorAlive
import Derived.Test.YthknejgdchpaaaaDoorMay
namespace Go.Proofs.YthknejgdchpaaaaDoor
open Go.RowKit
set_option linter.unusedVariables false
set_option linter.unusedSimpArgs false

theorem kind_cases (s : ByteArray) : kindN s = 0 ∨ kindN s = 6 ∨ kindN s = 7 ∨ kindN s = 8 ∨ kindN s = 9 ∨ kindN s = 10 ∨ kindN s = 11 := by
  unfold kindN
  rcases beg_cases s with e | e | e | e | e <;> rw [e] <;> cases mkB s <;> cases allS s <;> cases allR s <;> cases kwB s <;> decide
theorem kw_kind (s : ByteArray) : kwB s = (kindN s == 10) := by
  cases hk : kwB s
  · unfold kindN
    rw [hk]
    rcases beg_cases s with e | e | e | e | e <;> rw [e] <;> cases mkB s <;> cases allS s <;> cases allR s <;> decide
  · obtain ⟨h1, h2⟩ := kw_beg s hk
    unfold kindN
    rw [hk, h1, h2, mk_not s (.inl h1)]; rfl
theorem mk_kind (s : ByteArray) : mkB s = (kindN s == 11) := by
  cases hm : mkB s
  · unfold kindN
    rw [hm]
    rcases beg_cases s with e | e | e | e | e <;> rw [e] <;> cases kwB s <;> cases allS s <;> cases allR s <;> decide
  · unfold kindN
    rw [hm]; rfl
theorem lvN_pos (c : UInt8) : 0 < lvN c := by
  unfold lvN; cases g7 c <;> cases g6 c <;> cases g5 c <;> cases g4 c <;> cases g3 c <;> decide
theorem levN_pos (s : ByteArray) (h : kindN s = 9) : 0 < levN s := by
  unfold levN; rw [h]; exact lvN_pos _

def mayX (p x : Int) : Bool := bif p == 1 then (x == 6 || x == 9) else bif p == 3 then x == 6 else (decide (2 ≤ p) && decide (p ≤ 6) && x == 7)
/-- How many of the first k spaces a text of kind x may be in. -/
def cntX (x : Int) : Nat → Int
  | 0 => 0
  | k + 1 => cntX x k + (bif mayX (k + 1 : Nat) x then 1 else 0)
theorem cntX_le (x : Int) : ∀ k, 0 ≤ cntX x k ∧ cntX x k ≤ k
  | 0 => by simp [cntX]
  | k + 1 => by have := cntX_le x k; unfold cntX; cases mayX (k + 1 : Nat) x <;> simp <;> omega

set_option maxHeartbeats 2000000 in
theorem nameOne_walk (s : ByteArray) (w : World) (hs : s.size ≤ 9223372036854775807) (hk : Kw w) :
    Calls Tryd.prog 5 #[.string s] w fun e w' => e = .returned (.bool true) ∧ Below w.heap.size w w' := by
  have HA := alive_any w hk
  by_cases h : 1000 < s.size
  · clear hk
    go_enter Tryd.func5, Tryd.ntmps5
    go_wp2_with (go_at_call 8; refine HA.mono ?_; rintro e w1 ⟨rfl, hb⟩)
    go_ret
    exact ⟨rfl, hb⟩
  have HL := level_any s w hk hs
  have HK := kind_any s w hk hs
  have HW := keyword_any s w hk
  have HM := mark_any s w
  have HX : ∀ p : Int, Calls Tryd.prog 19 #[.int .i64 p, .string s] w fun e w' => e = .returned (.bool (mayX p (kindN s))) ∧ w = w' := fun p => may_any p s w hk hs
  rw [kw_kind s] at HW
  rw [mk_kind s] at HM
  have hlp := levN_pos s
  have hln := lev_none s
  have hkc := kind_cases s
  clear hk
  generalize kindN s = x at *
  generalize levR s = b at *
  generalize levN s = m at *
  have HC := Lib.hid hkc
  have HP := Lib.hid hlp
  have HN : Hid (x ≠ 9 → m = 0 ∧ b = false) := Lib.hid hln
  clear hkc hlp hln
  go_enter Tryd.func5, Tryd.ntmps5
  go_wp2
  go_loop [3, 4] (fun c i => ∃ k : Nat, k ≤ 6 ∧ i = .int .i64 (k + 1 : Nat) ∧ c = .int .i64 (cntX x k)) (fun _ i => 7 - (intOf i).toNat)
  case atStart => exact ⟨0, by omega, rfl, rfl⟩
  case round =>
    obtain ⟨k, hk, rfl, rfl⟩ := hrel
    have hle := cntX_le x k
    by_cases hlt : k < 6
    · have H1 := HX (k + 1 : Nat)
      have HS : Hid (cntX x (k + 1) = cntX x k + (bif mayX (k + 1 : Nat) x then 1 else 0)) := Lib.hid rfl
      cases hm : mayX (k + 1 : Nat) x
      all_goals
        rw [hm] at H1 HS
        clear hm
        generalize cntX x k = c at *
        go_wp2_with (go_at_call 19; refine H1.mono ?_; rintro e w1 ⟨rfl, rfl⟩)
        go_round
        case rel => exact ⟨k + 1, by omega, by go_num, by rw [HS.out]; simp⟩
        case measure => simp [intOf]; omega
    · have e6 : k = 6 := by omega
      subst e6
      rcases HC.out with e | e | e | e | e | e | e
      · subst e
        have hc : cntX 0 6 = 0 := by decide
        rw [hc]
        obtain ⟨rfl, rfl⟩ := HN.out (by decide)
        clear hc HC HX hle HP HN
        go_wp2_with (first | (go_at_call 8; refine HA.mono ?_; rintro e w1 ⟨rfl, hb⟩) | (go_at_call 9; refine HL.mono ?_; rintro e w1 ⟨rfl, rfl⟩) | (go_at_call 12; refine HK.mono ?_; rintro e w1 ⟨rfl, rfl⟩) | (go_at_call 14; refine HW.mono ?_; rintro e w1 ⟨rfl, rfl⟩) | (go_at_call 17; refine HM.mono ?_; rintro e w1 ⟨rfl, rfl⟩))
        go_ret
        exact ⟨rfl, hb⟩
      · subst e
        have hc : cntX 6 6 = 2 := by decide
        rw [hc]
        obtain ⟨rfl, rfl⟩ := HN.out (by decide)
        clear hc HC HX hle HP HN
        go_wp2_with (first | (go_at_call 8; refine HA.mono ?_; rintro e w1 ⟨rfl, hb⟩) | (go_at_call 9; refine HL.mono ?_; rintro e w1 ⟨rfl, rfl⟩) | (go_at_call 12; refine HK.mono ?_; rintro e w1 ⟨rfl, rfl⟩) | (go_at_call 14; refine HW.mono ?_; rintro e w1 ⟨rfl, rfl⟩) | (go_at_call 17; refine HM.mono ?_; rintro e w1 ⟨rfl, rfl⟩))
        go_ret
        exact ⟨rfl, hb⟩
      · subst e
        have hc : cntX 7 6 = 4 := by decide
        rw [hc]
        obtain ⟨rfl, rfl⟩ := HN.out (by decide)
        clear hc HC HX hle HP HN
        go_wp2_with (first | (go_at_call 8; refine HA.mono ?_; rintro e w1 ⟨rfl, hb⟩) | (go_at_call 9; refine HL.mono ?_; rintro e w1 ⟨rfl, rfl⟩) | (go_at_call 12; refine HK.mono ?_; rintro e w1 ⟨rfl, rfl⟩) | (go_at_call 14; refine HW.mono ?_; rintro e w1 ⟨rfl, rfl⟩) | (go_at_call 17; refine HM.mono ?_; rintro e w1 ⟨rfl, rfl⟩))
        go_ret
        exact ⟨rfl, hb⟩
      · subst e
        have hc : cntX 8 6 = 0 := by decide
        rw [hc]
        obtain ⟨rfl, rfl⟩ := HN.out (by decide)
        clear hc HC HX hle HP HN
        go_wp2_with (first | (go_at_call 8; refine HA.mono ?_; rintro e w1 ⟨rfl, hb⟩) | (go_at_call 9; refine HL.mono ?_; rintro e w1 ⟨rfl, rfl⟩) | (go_at_call 12; refine HK.mono ?_; rintro e w1 ⟨rfl, rfl⟩) | (go_at_call 14; refine HW.mono ?_; rintro e w1 ⟨rfl, rfl⟩) | (go_at_call 17; refine HM.mono ?_; rintro e w1 ⟨rfl, rfl⟩))
        go_ret
        exact ⟨rfl, hb⟩
      · subst e
        have hc : cntX 9 6 = 1 := by decide
        rw [hc]
        have hl := HP.out rfl
        clear hc HC HX hle HP HN
        go_wp2_with (first | (go_at_call 8; refine HA.mono ?_; rintro e w1 ⟨rfl, hb⟩) | (go_at_call 9; refine HL.mono ?_; rintro e w1 ⟨rfl, rfl⟩) | (go_at_call 12; refine HK.mono ?_; rintro e w1 ⟨rfl, rfl⟩) | (go_at_call 14; refine HW.mono ?_; rintro e w1 ⟨rfl, rfl⟩) | (go_at_call 17; refine HM.mono ?_; rintro e w1 ⟨rfl, rfl⟩))
        go_ret
        exact ⟨rfl, hb⟩
      · subst e
        have hc : cntX 10 6 = 0 := by decide
        rw [hc]
        obtain ⟨rfl, rfl⟩ := HN.out (by decide)
        clear hc HC HX hle HP HN
        go_wp2_with (first | (go_at_call 8; refine HA.mono ?_; rintro e w1 ⟨rfl, hb⟩) | (go_at_call 9; refine HL.mono ?_; rintro e w1 ⟨rfl, rfl⟩) | (go_at_call 12; refine HK.mono ?_; rintro e w1 ⟨rfl, rfl⟩) | (go_at_call 14; refine HW.mono ?_; rintro e w1 ⟨rfl, rfl⟩) | (go_at_call 17; refine HM.mono ?_; rintro e w1 ⟨rfl, rfl⟩))
        go_ret
        exact ⟨rfl, hb⟩
      · subst e
        have hc : cntX 11 6 = 0 := by decide
        rw [hc]
        obtain ⟨rfl, rfl⟩ := HN.out (by decide)
        clear hc HC HX hle HP HN
        go_wp2_with (first | (go_at_call 8; refine HA.mono ?_; rintro e w1 ⟨rfl, hb⟩) | (go_at_call 9; refine HL.mono ?_; rintro e w1 ⟨rfl, rfl⟩) | (go_at_call 12; refine HK.mono ?_; rintro e w1 ⟨rfl, rfl⟩) | (go_at_call 14; refine HW.mono ?_; rintro e w1 ⟨rfl, rfl⟩) | (go_at_call 17; refine HM.mono ?_; rintro e w1 ⟨rfl, rfl⟩))
        go_ret
        exact ⟨rfl, hb⟩
end Go.Proofs.YthknejgdchpaaaaDoor
