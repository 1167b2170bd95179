/-
  Rows of texts: is a text on one; the rows of marks and keywords that the document's side makes.
-/
import Derived.Test.YtnkgmddaodbpcaaDoorWords
namespace Go.Proofs.YtnkgmddaodbpcaaDoor
open Go.RowKit
set_option linter.unusedVariables false

theorem in_new (w : World) (l : List ByteArray) (T n : Nat) (hn : n = l.length) : In (w.alloc (.cells (l.map Value.string).toArray T)) (some ⟨w.heap.size, 0, none⟩) n n l := by
  refine ⟨hn, .inr ⟨w.heap.size, 0, rfl, Nat.le_refl _, by simp, fun i hi => ?_⟩⟩
  rw [World.cell?_alloc_new]
  simp [hi]
def begN (s : ByteArray) : Int := match s.toList with
  | [] => 0
  | c :: r => bif lowB c then 6 else bif capB c then 7 else bif signB c then 9 else bif ((c.toNat : Int) == 39) then (match r with | [] => 0 | d :: _ => bif lowB d then 8 else 0) else 0
theorem data_len (s : ByteArray) : s.data.toList.length = s.size := (Lib.size_eq s).symm
theorem data_at (s : ByteArray) (k : Nat) (h : k < s.size) : s.data.toList[k]'(by rw [data_len]; exact h) = s[k] := by
  rw [Array.getElem_toList]; rfl
theorem toList_one (s : ByteArray) (h : s.size = 1) : s.toList = [s[0]] := by
  rw [Lib.toList_data]
  apply List.ext_getElem
  · rw [data_len]; exact h
  · intro i h1 h2
    simp at h2
    subst h2
    rw [data_at s 0 (by omega)]
    rfl
theorem toList_more (s : ByteArray) (h : 1 < s.size) : s.toList = s[0] :: s[1] :: s.data.toList.drop 2 := by
  rw [Lib.toList_data]
  have hl := data_len s
  rw [← data_at s 0 (by omega), ← data_at s 1 (by omega), List.getElem_cons_drop, List.getElem_cons_drop, List.drop_zero]
set_option maxHeartbeats 2000000 in
theorem begun_any (s : ByteArray) (w : World) (hm : s.size ≤ 9223372036854775807) : Calls Tryd.prog 38 #[.string s] w fun e w' => e = .returned (.int .i64 (begN s)) ∧ w = w' := by
  by_cases h0 : s.size = 0
  · have he : s.toList = [] := by rw [Lib.toList_data, ← List.length_eq_zero_iff, ← Lib.size_eq]; exact h0
    have HB : Hid (begN s = 0) := Lib.hid (by unfold begN; rw [he])
    have hem : s.toList.isEmpty = true := by rw [he]; rfl
    clear he
    go_enter Tryd.func38, Tryd.ntmps38
    go_wp2
    go_ret
    exact ⟨ret_int HB.out.symm, rfl⟩
  · have hem : s.toList.isEmpty = false := by
      rw [Lib.toList_data]
      cases e : s.data.toList with
      | nil => have := Lib.size_eq s; rw [e] at this; exact absurd this h0
      | cons => rfl
    have hp : 0 < s.size := by omega
    have HL := fun w => low_any s[0] w
    have HC := fun w => cap_any s[0] w
    have HS := fun w => sign_any s[0] w
    by_cases h1 : s.size = 1
    · have h1' : s.size ≤ 1 := by omega
      have HB : Hid (begN s = bif lowB s[0] then (6 : Int) else bif capB s[0] then (7 : Int) else bif signB s[0] then (9 : Int) else bif ((s[0].toNat : Int) == 39) then (0 : Int) else (0 : Int)) := Lib.hid (by unfold begN; rw [toList_one s h1])
      clear h0 h1
      cases hHL : lowB s[0]
      case true =>
        simp only [hHL, cond_true] at HL HB; clear hHL
        go_enter Tryd.func38, Tryd.ntmps38
        go_wp2_with (first | (go_at_call 45; refine (HL _).mono ?_; rintro e w1 ⟨rfl, rfl⟩) | (go_at_call 46; refine (HC _).mono ?_; rintro e w1 ⟨rfl, rfl⟩) | (go_at_call 42; refine (HS _).mono ?_; rintro e w1 ⟨rfl, rfl⟩))
        go_ret
        exact ⟨ret_int HB.out.symm, rfl⟩
      simp only [hHL, cond_false] at HL HB; clear hHL
      cases hHC : capB s[0]
      case true =>
        simp only [hHC, cond_true] at HC HB; clear hHC
        go_enter Tryd.func38, Tryd.ntmps38
        go_wp2_with (first | (go_at_call 45; refine (HL _).mono ?_; rintro e w1 ⟨rfl, rfl⟩) | (go_at_call 46; refine (HC _).mono ?_; rintro e w1 ⟨rfl, rfl⟩) | (go_at_call 42; refine (HS _).mono ?_; rintro e w1 ⟨rfl, rfl⟩))
        go_ret
        exact ⟨ret_int HB.out.symm, rfl⟩
      simp only [hHC, cond_false] at HC HB; clear hHC
      cases hHS : signB s[0]
      case true =>
        simp only [hHS, cond_true] at HS HB; clear hHS
        go_enter Tryd.func38, Tryd.ntmps38
        go_wp2_with (first | (go_at_call 45; refine (HL _).mono ?_; rintro e w1 ⟨rfl, rfl⟩) | (go_at_call 46; refine (HC _).mono ?_; rintro e w1 ⟨rfl, rfl⟩) | (go_at_call 42; refine (HS _).mono ?_; rintro e w1 ⟨rfl, rfl⟩))
        go_ret
        exact ⟨ret_int HB.out.symm, rfl⟩
      simp only [hHS, cond_false] at HS HB; clear hHS
      cases hq : ((s[0].toNat : Int) == 39)
      case false =>
        simp only [hq, cond_false] at HB
        go_enter Tryd.func38, Tryd.ntmps38
        go_wp2_with (first | (go_at_call 45; refine (HL _).mono ?_; rintro e w1 ⟨rfl, rfl⟩) | (go_at_call 46; refine (HC _).mono ?_; rintro e w1 ⟨rfl, rfl⟩) | (go_at_call 42; refine (HS _).mono ?_; rintro e w1 ⟨rfl, rfl⟩))
        go_ret
        exact ⟨ret_int HB.out.symm, rfl⟩
      simp only [hq, cond_true] at HB
      go_enter Tryd.func38, Tryd.ntmps38
      go_wp2_with (first | (go_at_call 45; refine (HL _).mono ?_; rintro e w1 ⟨rfl, rfl⟩) | (go_at_call 46; refine (HC _).mono ?_; rintro e w1 ⟨rfl, rfl⟩) | (go_at_call 42; refine (HS _).mono ?_; rintro e w1 ⟨rfl, rfl⟩))
      go_ret
      exact ⟨ret_int HB.out.symm, rfl⟩
    · have h1' : 1 < s.size := by omega
      have HB : Hid (begN s = bif lowB s[0] then (6 : Int) else bif capB s[0] then (7 : Int) else bif signB s[0] then (9 : Int) else bif ((s[0].toNat : Int) == 39) then (bif lowB s[1] then (8 : Int) else (0 : Int)) else (0 : Int)) := Lib.hid (by unfold begN; rw [toList_more s h1'])
      have HD := fun w => low_any s[1] w
      clear h0 h1
      cases hHL : lowB s[0]
      case true =>
        simp only [hHL, cond_true] at HL HB; clear hHL
        go_enter Tryd.func38, Tryd.ntmps38
        go_wp2_with (first | (go_at_call 45; refine (HL _).mono ?_; rintro e w1 ⟨rfl, rfl⟩) | (go_at_call 46; refine (HC _).mono ?_; rintro e w1 ⟨rfl, rfl⟩) | (go_at_call 42; refine (HS _).mono ?_; rintro e w1 ⟨rfl, rfl⟩) | (go_at_call 45; refine (HD _).mono ?_; rintro e w1 ⟨rfl, rfl⟩))
        go_ret
        exact ⟨ret_int HB.out.symm, rfl⟩
      simp only [hHL, cond_false] at HL HB; clear hHL
      cases hHC : capB s[0]
      case true =>
        simp only [hHC, cond_true] at HC HB; clear hHC
        go_enter Tryd.func38, Tryd.ntmps38
        go_wp2_with (first | (go_at_call 45; refine (HL _).mono ?_; rintro e w1 ⟨rfl, rfl⟩) | (go_at_call 46; refine (HC _).mono ?_; rintro e w1 ⟨rfl, rfl⟩) | (go_at_call 42; refine (HS _).mono ?_; rintro e w1 ⟨rfl, rfl⟩) | (go_at_call 45; refine (HD _).mono ?_; rintro e w1 ⟨rfl, rfl⟩))
        go_ret
        exact ⟨ret_int HB.out.symm, rfl⟩
      simp only [hHC, cond_false] at HC HB; clear hHC
      cases hHS : signB s[0]
      case true =>
        simp only [hHS, cond_true] at HS HB; clear hHS
        go_enter Tryd.func38, Tryd.ntmps38
        go_wp2_with (first | (go_at_call 45; refine (HL _).mono ?_; rintro e w1 ⟨rfl, rfl⟩) | (go_at_call 46; refine (HC _).mono ?_; rintro e w1 ⟨rfl, rfl⟩) | (go_at_call 42; refine (HS _).mono ?_; rintro e w1 ⟨rfl, rfl⟩) | (go_at_call 45; refine (HD _).mono ?_; rintro e w1 ⟨rfl, rfl⟩))
        go_ret
        exact ⟨ret_int HB.out.symm, rfl⟩
      simp only [hHS, cond_false] at HS HB; clear hHS
      cases hq : ((s[0].toNat : Int) == 39)
      case false =>
        simp only [hq, cond_false] at HB
        go_enter Tryd.func38, Tryd.ntmps38
        go_wp2_with (first | (go_at_call 45; refine (HL _).mono ?_; rintro e w1 ⟨rfl, rfl⟩) | (go_at_call 46; refine (HC _).mono ?_; rintro e w1 ⟨rfl, rfl⟩) | (go_at_call 42; refine (HS _).mono ?_; rintro e w1 ⟨rfl, rfl⟩) | (go_at_call 45; refine (HD _).mono ?_; rintro e w1 ⟨rfl, rfl⟩))
        go_ret
        exact ⟨ret_int HB.out.symm, rfl⟩
      simp only [hq, cond_true] at HB
      cases hd : lowB s[1] <;> simp only [hd] at HD HB <;> clear hd
      all_goals
        go_enter Tryd.func38, Tryd.ntmps38
        go_wp2_with (first | (go_at_call 45; refine (HL _).mono ?_; rintro e w1 ⟨rfl, rfl⟩) | (go_at_call 46; refine (HC _).mono ?_; rintro e w1 ⟨rfl, rfl⟩) | (go_at_call 42; refine (HS _).mono ?_; rintro e w1 ⟨rfl, rfl⟩) | (go_at_call 45; refine (HD _).mono ?_; rintro e w1 ⟨rfl, rfl⟩))
        go_ret
        exact ⟨ret_int HB.out.symm, rfl⟩
end Go.Proofs.YtnkgmddaodbpcaaDoor
