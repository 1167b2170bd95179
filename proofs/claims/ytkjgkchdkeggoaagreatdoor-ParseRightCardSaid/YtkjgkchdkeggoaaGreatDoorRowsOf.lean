/-
  Rows of texts: is a text on one; the rows of marks and keywords that the document's side makes.
-/
import Derived.Test.YtkjgkchdkeggoaaGreatDoorWords
namespace Go.Proofs.YtkjgkchdkeggoaaGreatDoor
open Go.RowKit
set_option linter.unusedVariables false

set_option maxHeartbeats 400000 in
theorem in_some (l : List ByteArray) (s : ByteArray) (b off n cap : Nat) (w : World) (hat : At w b off l) (hn : n = l.length) (hc : n ≤ cap) (hm : n ≤ 9223372036854775807) :
    Calls Tryz.prog 91 #[.slice (some ⟨b, off, none⟩) n cap, .string s] w fun e w' => e = .returned (.bool (inB l s)) ∧ w = w' := by
  have HA := Lib.hid hat
  have HN := Lib.hid hn
  clear hat hn
  go_enter Tryz.func91, Tryz.ntmps91
  go_wp2
  go_loop [5] (fun i => ∃ k : Nat, k ≤ n ∧ i = .int .i64 k ∧ Hid (∀ j, j < k → (hj : j < l.length) → ((l[j]'hj).toList == s.toList) = false)) (fun i => n - (intOf i).toNat)
  case atStart => exact ⟨0, by omega, rfl, Lib.hid (fun j h => by omega)⟩
  case round =>
    obtain ⟨k, hk, rfl, HJ⟩ := hrel
    by_cases hlt : k < n
    · have hkl : k < l.length := by have := HN.out; omega
      have hcell : w.cell? ⟨b, off + k, none⟩ = some (.string (l[k]'hkl)) := HA.out k hkl
      by_cases he : ((l[k]'hkl).toList == s.toList) = true
      · have HB := Lib.hid (inB_at (l := l) k hkl he)
        generalize l[k]'hkl = t at hcell he
        go_wp2
        go_ret
        exact ⟨ret_bool HB.out.symm, rfl⟩
      · have he : ((l[k]'hkl).toList == s.toList) = false := by simpa using he
        have HE := Lib.hid he
        generalize l[k]'hkl = t at hcell he
        go_wp2
        go_round
        case rel =>
          refine ⟨k + 1, by omega, by go_num, Lib.hid fun j hj hj2 => ?_⟩
          by_cases e : j = k
          · subst e; exact HE.out
          · exact HJ.out j (by omega) hj2
        case measure => simp [intOf]; omega
    · have HB := Lib.hid (inB_none (l := l) (s := s) (fun j hj => HJ.out j (by have := HN.out; omega) hj))
      go_wp2
      go_ret
      exact ⟨ret_bool HB.out.symm, rfl⟩
theorem in_nil (s : ByteArray) (p : Option Addr) (cap : Nat) (w : World) :
    Calls Tryz.prog 91 #[.slice p 0 cap, .string s] w fun e w' => e = .returned (.bool false) ∧ w = w' := by
  go_enter Tryz.func91, Tryz.ntmps91
  go_wp2
  refine wp_loop_rounds 1 ?_
  rw [rounds_succ]
  go_wp2
  go_ret
  exact ⟨rfl, rfl⟩
theorem in_any (l : List ByteArray) (s : ByteArray) (p : Option Addr) (n cap : Nat) (w : World) (h : In w p n cap l) (hm : n ≤ 9223372036854775807) :
    Calls Tryz.prog 91 #[.slice p n cap, .string s] w fun e w' => e = .returned (.bool (inB l s)) ∧ w = w' := by
  obtain ⟨hn, h0 | ⟨b, off, rfl, hc, hb, hat⟩⟩ := h
  · subst h0
    have : l = [] := List.length_eq_zero_iff.1 hn.symm
    subst this
    exact in_nil s p cap w
  · exact in_some l s b off n cap w hat hn hc hm
theorem in_new (w : World) (l : List ByteArray) (T n : Nat) (hn : n = l.length) : In (w.alloc (.cells (l.map Value.string).toArray T)) (some ⟨w.heap.size, 0, none⟩) n n l := by
  refine ⟨hn, .inr ⟨w.heap.size, 0, rfl, Nat.le_refl _, by simp, fun i hi => ?_⟩⟩
  rw [World.cell?_alloc_new]
  simp [hi]
theorem marks_any (w : World) : Calls Tryz.prog 92 #[] w fun e w' => e = .returned (.slice (some ⟨w.heap.size, 0, none⟩) 12 12) ∧ In w' (some ⟨w.heap.size, 0, none⟩) 12 12 mkT ∧ Below w.heap.size w w' := by
  go_enter Tryz.func92, Tryz.ntmps92
  go_wp2
  go_ret
  exact ⟨rfl, in_new w mkT 9 12 rfl, (Below.refl _ _).alloc (Nat.le_refl _) _⟩
set_option maxRecDepth 10000 in
theorem refKeywords_any (w : World) : Calls Tryz.prog 93 #[] w fun e w' => e = .returned (.slice (some ⟨w.heap.size, 0, none⟩) 25 25) ∧ In w' (some ⟨w.heap.size, 0, none⟩) 25 25 kwT ∧ Below w.heap.size w w' := by
  go_enter Tryz.func93, Tryz.ntmps93
  go_wp2
  go_ret
  exact ⟨rfl, in_new w kwT 9 25 rfl, (Below.refl _ _).alloc (Nat.le_refl _) _⟩
def begN (s : ByteArray) : Int := match s.toList with
  | [] => 0
  | c :: r => bif lowB c then 6 else bif capB c then 7 else bif signB c then 9 else bif ((c.toNat : Int) == 39) then (match r with | [] => 0 | d :: _ => bif lowB d then 8 else 0) else 0
theorem data_len (s : ByteArray) : s.data.toList.length = s.size := (Lib.size_eq s).symm
theorem data_at (s : ByteArray) (k : Nat) (h : k < s.size) : s.data.toList[k]'(by rw [data_len]; exact h) = s[k] := by
  rw [Array.getElem_toList]; rfl
theorem toList_one (s : ByteArray) (h : s.size = 1) : s.toList = [s[0]] := by
  rw [Lib.toList_data]
  apply List.ext_getElem
  · rw [data_len]; exact h
  · intro i h1 h2
    simp at h2
    subst h2
    rw [data_at s 0 (by omega)]
    rfl
theorem toList_more (s : ByteArray) (h : 1 < s.size) : s.toList = s[0] :: s[1] :: s.data.toList.drop 2 := by
  rw [Lib.toList_data]
  have hl := data_len s
  rw [← data_at s 0 (by omega), ← data_at s 1 (by omega), List.getElem_cons_drop, List.getElem_cons_drop, List.drop_zero]
set_option maxHeartbeats 2000000 in
set_option maxRecDepth 20000 in
theorem begun_any (s : ByteArray) (w : World) (hm : s.size ≤ 9223372036854775807) : Calls Tryz.prog 127 #[.string s] w fun e w' => e = .returned (.int .i64 (begN s)) ∧ w = w' := by
  by_cases h0 : s.size = 0
  · have he : s.toList = [] := by rw [Lib.toList_data, ← List.length_eq_zero_iff, ← Lib.size_eq]; exact h0
    have HB : Hid (begN s = 0) := Lib.hid (by unfold begN; rw [he])
    have hem : s.toList.isEmpty = true := by rw [he]; rfl
    clear he
    go_enter Tryz.func127, Tryz.ntmps127
    go_wp2
    go_ret
    exact ⟨ret_int HB.out.symm, rfl⟩
  · have hem : s.toList.isEmpty = false := by
      rw [Lib.toList_data]
      cases e : s.data.toList with
      | nil => have := Lib.size_eq s; rw [e] at this; exact absurd this h0
      | cons => rfl
    have hp : 0 < s.size := by omega
    have HL := fun w => low_any s[0] w
    have HC := fun w => cap_any s[0] w
    have HS := fun w => sign_any s[0] w
    by_cases h1 : s.size = 1
    · have h1' : s.size ≤ 1 := by omega
      have HB : Hid (begN s = bif lowB s[0] then (6 : Int) else bif capB s[0] then (7 : Int) else bif signB s[0] then (9 : Int) else bif ((s[0].toNat : Int) == 39) then (0 : Int) else (0 : Int)) := Lib.hid (by unfold begN; rw [toList_one s h1])
      clear h0 h1
      cases hHL : lowB s[0]
      case true =>
        simp only [hHL, cond_true] at HL HB; clear hHL
        go_enter Tryz.func127, Tryz.ntmps127
        go_wp2_with (first | (go_at_call 136; refine (HL _).mono ?_; rintro e w1 ⟨rfl, rfl⟩) | (go_at_call 137; refine (HC _).mono ?_; rintro e w1 ⟨rfl, rfl⟩) | (go_at_call 131; refine (HS _).mono ?_; rintro e w1 ⟨rfl, rfl⟩))
        go_ret
        exact ⟨ret_int HB.out.symm, rfl⟩
      simp only [hHL, cond_false] at HL HB; clear hHL
      cases hHC : capB s[0]
      case true =>
        simp only [hHC, cond_true] at HC HB; clear hHC
        go_enter Tryz.func127, Tryz.ntmps127
        go_wp2_with (first | (go_at_call 136; refine (HL _).mono ?_; rintro e w1 ⟨rfl, rfl⟩) | (go_at_call 137; refine (HC _).mono ?_; rintro e w1 ⟨rfl, rfl⟩) | (go_at_call 131; refine (HS _).mono ?_; rintro e w1 ⟨rfl, rfl⟩))
        go_ret
        exact ⟨ret_int HB.out.symm, rfl⟩
      simp only [hHC, cond_false] at HC HB; clear hHC
      cases hHS : signB s[0]
      case true =>
        simp only [hHS, cond_true] at HS HB; clear hHS
        go_enter Tryz.func127, Tryz.ntmps127
        go_wp2_with (first | (go_at_call 136; refine (HL _).mono ?_; rintro e w1 ⟨rfl, rfl⟩) | (go_at_call 137; refine (HC _).mono ?_; rintro e w1 ⟨rfl, rfl⟩) | (go_at_call 131; refine (HS _).mono ?_; rintro e w1 ⟨rfl, rfl⟩))
        go_ret
        exact ⟨ret_int HB.out.symm, rfl⟩
      simp only [hHS, cond_false] at HS HB; clear hHS
      cases hq : ((s[0].toNat : Int) == 39)
      case false =>
        simp only [hq, cond_false] at HB
        go_enter Tryz.func127, Tryz.ntmps127
        go_wp2_with (first | (go_at_call 136; refine (HL _).mono ?_; rintro e w1 ⟨rfl, rfl⟩) | (go_at_call 137; refine (HC _).mono ?_; rintro e w1 ⟨rfl, rfl⟩) | (go_at_call 131; refine (HS _).mono ?_; rintro e w1 ⟨rfl, rfl⟩))
        go_ret
        exact ⟨ret_int HB.out.symm, rfl⟩
      simp only [hq, cond_true] at HB
      go_enter Tryz.func127, Tryz.ntmps127
      go_wp2_with (first | (go_at_call 136; refine (HL _).mono ?_; rintro e w1 ⟨rfl, rfl⟩) | (go_at_call 137; refine (HC _).mono ?_; rintro e w1 ⟨rfl, rfl⟩) | (go_at_call 131; refine (HS _).mono ?_; rintro e w1 ⟨rfl, rfl⟩))
      go_ret
      exact ⟨ret_int HB.out.symm, rfl⟩
    · have h1' : 1 < s.size := by omega
      have HB : Hid (begN s = bif lowB s[0] then (6 : Int) else bif capB s[0] then (7 : Int) else bif signB s[0] then (9 : Int) else bif ((s[0].toNat : Int) == 39) then (bif lowB s[1] then (8 : Int) else (0 : Int)) else (0 : Int)) := Lib.hid (by unfold begN; rw [toList_more s h1'])
      have HD := fun w => low_any s[1] w
      clear h0 h1
      cases hHL : lowB s[0]
      case true =>
        simp only [hHL, cond_true] at HL HB; clear hHL
        go_enter Tryz.func127, Tryz.ntmps127
        go_wp2_with (first | (go_at_call 136; refine (HL _).mono ?_; rintro e w1 ⟨rfl, rfl⟩) | (go_at_call 137; refine (HC _).mono ?_; rintro e w1 ⟨rfl, rfl⟩) | (go_at_call 131; refine (HS _).mono ?_; rintro e w1 ⟨rfl, rfl⟩) | (go_at_call 136; refine (HD _).mono ?_; rintro e w1 ⟨rfl, rfl⟩))
        go_ret
        exact ⟨ret_int HB.out.symm, rfl⟩
      simp only [hHL, cond_false] at HL HB; clear hHL
      cases hHC : capB s[0]
      case true =>
        simp only [hHC, cond_true] at HC HB; clear hHC
        go_enter Tryz.func127, Tryz.ntmps127
        go_wp2_with (first | (go_at_call 136; refine (HL _).mono ?_; rintro e w1 ⟨rfl, rfl⟩) | (go_at_call 137; refine (HC _).mono ?_; rintro e w1 ⟨rfl, rfl⟩) | (go_at_call 131; refine (HS _).mono ?_; rintro e w1 ⟨rfl, rfl⟩) | (go_at_call 136; refine (HD _).mono ?_; rintro e w1 ⟨rfl, rfl⟩))
        go_ret
        exact ⟨ret_int HB.out.symm, rfl⟩
      simp only [hHC, cond_false] at HC HB; clear hHC
      cases hHS : signB s[0]
      case true =>
        simp only [hHS, cond_true] at HS HB; clear hHS
        go_enter Tryz.func127, Tryz.ntmps127
        go_wp2_with (first | (go_at_call 136; refine (HL _).mono ?_; rintro e w1 ⟨rfl, rfl⟩) | (go_at_call 137; refine (HC _).mono ?_; rintro e w1 ⟨rfl, rfl⟩) | (go_at_call 131; refine (HS _).mono ?_; rintro e w1 ⟨rfl, rfl⟩) | (go_at_call 136; refine (HD _).mono ?_; rintro e w1 ⟨rfl, rfl⟩))
        go_ret
        exact ⟨ret_int HB.out.symm, rfl⟩
      simp only [hHS, cond_false] at HS HB; clear hHS
      cases hq : ((s[0].toNat : Int) == 39)
      case false =>
        simp only [hq, cond_false] at HB
        go_enter Tryz.func127, Tryz.ntmps127
        go_wp2_with (first | (go_at_call 136; refine (HL _).mono ?_; rintro e w1 ⟨rfl, rfl⟩) | (go_at_call 137; refine (HC _).mono ?_; rintro e w1 ⟨rfl, rfl⟩) | (go_at_call 131; refine (HS _).mono ?_; rintro e w1 ⟨rfl, rfl⟩) | (go_at_call 136; refine (HD _).mono ?_; rintro e w1 ⟨rfl, rfl⟩))
        go_ret
        exact ⟨ret_int HB.out.symm, rfl⟩
      simp only [hq, cond_true] at HB
      cases hd : lowB s[1] <;> simp only [hd] at HD HB <;> clear hd
      all_goals
        go_enter Tryz.func127, Tryz.ntmps127
        go_wp2_with (first | (go_at_call 136; refine (HL _).mono ?_; rintro e w1 ⟨rfl, rfl⟩) | (go_at_call 137; refine (HC _).mono ?_; rintro e w1 ⟨rfl, rfl⟩) | (go_at_call 131; refine (HS _).mono ?_; rintro e w1 ⟨rfl, rfl⟩) | (go_at_call 136; refine (HD _).mono ?_; rintro e w1 ⟨rfl, rfl⟩))
        go_ret
        exact ⟨ret_int HB.out.symm, rfl⟩
end Go.Proofs.YtkjgkchdkeggoaaGreatDoor
