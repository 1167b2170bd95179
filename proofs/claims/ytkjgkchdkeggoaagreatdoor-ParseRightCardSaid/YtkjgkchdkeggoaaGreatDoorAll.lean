/-
  Is each byte of a text as asked: rests, signs' bytes.
-/
import Derived.Test.YtkjgkchdkeggoaaGreatDoorRowsOf
namespace Go.Proofs.YtkjgkchdkeggoaaGreatDoor
open Go.RowKit
set_option linter.unusedVariables false

theorem allL_no {l : List UInt8} {f : UInt8 → Bool} (k : Nat) (h : k < l.length) (he : f (l[k]'h) = false) : l.all f = false := by
  rw [List.all_eq_false]; exact ⟨_, List.getElem_mem h, by simp [he]⟩
theorem allL_yes {l : List UInt8} {f : UInt8 → Bool} (h : ∀ j, (hj : j < l.length) → f (l[j]'hj) = true) : l.all f = true := by
  rw [List.all_eq_true]; intro x hx
  obtain ⟨j, hj, e⟩ := List.getElem_of_mem hx
  rw [← e]; exact h j hj
def allR (s : ByteArray) : Bool := s.data.toList.all restB
def allS (s : ByteArray) : Bool := s.data.toList.all signB

set_option maxHeartbeats 400000 in
theorem allR_any (s : ByteArray) (w : World) (hs : s.size ≤ 9223372036854775807) : Calls Tryz.prog 129 #[.string s, .func (.func 130) #[] #[]] w fun e w' => e = .returned (.bool (allR s)) ∧ w = w' := by
  go_enter Tryz.func129, Tryz.ntmps129
  go_wp2
  go_loop [8] (fun i => ∃ k : Nat, k ≤ s.size ∧ i = .int .i64 k ∧ Hid (∀ j, j < k → (hj : j < s.data.toList.length) → restB (s.data.toList[j]'hj) = true)) (fun i => s.size - (intOf i).toNat)
  case atStart => exact ⟨0, by omega, rfl, Lib.hid (fun j h => by omega)⟩
  case round =>
    obtain ⟨k, hk, rfl, HJ⟩ := hrel
    by_cases hlt : k < s.size
    · have H := fun w => rest_any s[k] w
      cases hr : restB s[k]
      · have HB := Lib.hid (allL_no (f := restB) (l := s.data.toList) k (by rw [data_len]; exact hlt) (by rw [data_at s k hlt]; exact hr))
        simp only [hr] at H
        clear hr
        go_wp2_with (go_at_call 130; refine (H _).mono ?_; rintro e w1 ⟨rfl, rfl⟩)
        go_ret
        exact ⟨ret_bool HB.out.symm, rfl⟩
      · have HE := Lib.hid hr
        simp only [hr] at H
        clear hr
        go_wp2_with (go_at_call 130; refine (H _).mono ?_; rintro e w1 ⟨rfl, rfl⟩)
        go_round
        case rel =>
          refine ⟨k + 1, by omega, by go_num, Lib.hid fun j hj hj2 => ?_⟩
          by_cases e : j = k
          · subst e; rw [data_at s j hlt]; exact HE.out
          · exact HJ.out j (by omega) hj2
        case measure => simp [intOf]; omega
    · have HB := Lib.hid (allL_yes (f := restB) (l := s.data.toList) (fun j hj => HJ.out j (by have := data_len s; omega) hj))
      go_wp2
      go_ret
      exact ⟨ret_bool HB.out.symm, rfl⟩
set_option maxHeartbeats 400000 in
theorem allS_any (s : ByteArray) (w : World) (hs : s.size ≤ 9223372036854775807) : Calls Tryz.prog 129 #[.string s, .func (.func 131) #[] #[]] w fun e w' => e = .returned (.bool (allS s)) ∧ w = w' := by
  go_enter Tryz.func129, Tryz.ntmps129
  go_wp2
  go_loop [8] (fun i => ∃ k : Nat, k ≤ s.size ∧ i = .int .i64 k ∧ Hid (∀ j, j < k → (hj : j < s.data.toList.length) → signB (s.data.toList[j]'hj) = true)) (fun i => s.size - (intOf i).toNat)
  case atStart => exact ⟨0, by omega, rfl, Lib.hid (fun j h => by omega)⟩
  case round =>
    obtain ⟨k, hk, rfl, HJ⟩ := hrel
    by_cases hlt : k < s.size
    · have H := fun w => sign_any s[k] w
      cases hr : signB s[k]
      · have HB := Lib.hid (allL_no (f := signB) (l := s.data.toList) k (by rw [data_len]; exact hlt) (by rw [data_at s k hlt]; exact hr))
        simp only [hr] at H
        clear hr
        go_wp2_with (go_at_call 131; refine (H _).mono ?_; rintro e w1 ⟨rfl, rfl⟩)
        go_ret
        exact ⟨ret_bool HB.out.symm, rfl⟩
      · have HE := Lib.hid hr
        simp only [hr] at H
        clear hr
        go_wp2_with (go_at_call 131; refine (H _).mono ?_; rintro e w1 ⟨rfl, rfl⟩)
        go_round
        case rel =>
          refine ⟨k + 1, by omega, by go_num, Lib.hid fun j hj hj2 => ?_⟩
          by_cases e : j = k
          · subst e; rw [data_at s j hlt]; exact HE.out
          · exact HJ.out j (by omega) hj2
        case measure => simp [intOf]; omega
    · have HB := Lib.hid (allL_yes (f := signB) (l := s.data.toList) (fun j hj => HJ.out j (by have := data_len s; omega) hj))
      go_wp2
      go_ret
      exact ⟨ret_bool HB.out.symm, rfl⟩

def secB (s : ByteArray) : Bool := match s.toList with
  | _ :: d :: _ => lowB d
  | _ => false
theorem beg_eq (s : ByteArray) (h : 0 < s.size) : begN s = bif lowB s[0] then (6 : Int) else bif capB s[0] then (7 : Int) else bif signB s[0] then (9 : Int) else bif (((s[0].toNat : Int) == 39) && secB s) then (8 : Int) else (0 : Int) := by
  by_cases h1 : s.size = 1
  · unfold begN secB; rw [toList_one s h1]; simp
  · unfold begN secB; rw [toList_more s (by omega)]; cases e : ((s[0].toNat : Int) == 39) <;> simp only [e, cond_true, cond_false, Bool.true_and, Bool.false_and]
theorem beg_none (s : ByteArray) (h : s.size = 0) : begN s = 0 := by
  have he : s.toList = [] := by rw [Lib.toList_data, ← List.length_eq_zero_iff, data_len]; exact h
  unfold begN; rw [he]
theorem data_cons (s : ByteArray) (h : 0 < s.size) : s.data.toList = s[0] :: s.data.toList.drop 1 := by
  rw [← data_at s 0 h, List.getElem_cons_drop, List.drop_zero]
theorem allR_cons (s : ByteArray) (h : 0 < s.size) : allR s = (restB s[0] && allR (s.extract 1 s.size)) := by
  unfold allR
  have e1 : (s.extract 1 s.size).data.toList = s.data.toList.drop 1 := by
    rw [Lib.extract_data, List.take_of_length_le (by rw [List.length_drop, data_len]; omega)]
  rw [e1, ← List.all_cons, ← data_cons s h]
theorem allS_cons (s : ByteArray) (h : 0 < s.size) : allS s = true → signB s[0] = true := by
  unfold allS; rw [data_cons s h, List.all_cons]; intro h; simp at h; exact h.1
theorem allR_first (s : ByteArray) (h : 0 < s.size) : allR s = true → restB s[0] = true := by
  rw [allR_cons s h]; intro h; simp at h; exact h.1
theorem low_rest (c : UInt8) (h : lowB c = true) : restB c = true := by unfold restB; rw [h]; simp
theorem cap_rest (c : UInt8) (h : capB c = true) : restB c = true := by unfold restB; rw [h]; simp
theorem tick_rest (c : UInt8) (h : ((c.toNat : Int) == 39) = true) : restB c = true := by unfold restB; rw [h]; simp
theorem rest_sign (c : UInt8) (h : restB c = true) : signB c = false := by
  have h2 : ¬ (c ∈ signL) := by
    unfold restB lowB capB digB at h
    simp only [signL, List.mem_cons, List.not_mem_nil, or_false, u8_eq]
    simp at h ⊢
    omega
  unfold signB; simpa using h2
theorem low_cap (c : UInt8) (h : capB c = true) : lowB c = false := by
  unfold capB at h; unfold lowB; simp at h ⊢; omega
theorem tick_low (c : UInt8) (h : ((c.toNat : Int) == 39) = true) : lowB c = false := by
  unfold lowB; simp at h ⊢; omega
theorem tick_cap (c : UInt8) (h : ((c.toNat : Int) == 39) = true) : capB c = false := by
  unfold capB; simp at h ⊢; omega
/-- The kind of a text. -/
def kindN (s : ByteArray) : Int := bif mkB s then 11 else bif begN s == 9 then (bif allS s then 9 else 0) else bif begN s == 0 then 0 else bif allR s then (bif begN s == 6 && kwB s then 10 else begN s) else 0
theorem inB_mem {l : List ByteArray} {s : ByteArray} (h : inB l s = true) : s ∈ l := by
  unfold inB at h
  rw [List.any_eq_true] at h
  obtain ⟨t, ht, e⟩ := h
  have : t = s := by
    have e := beq_iff_eq.1 e
    rw [Lib.toList_data, Lib.toList_data] at e
    rw [← Lib.mk_data t, ← Lib.mk_data s, e]
  rw [← this]; exact ht
theorem mk_beg (s : ByteArray) (h : mkB s = true) : begN s = 9 ∨ begN s = 0 := by
  have hm := inB_mem h
  simp only [mkT, List.mem_cons, List.not_mem_nil, or_false] at hm
  rcases hm with e | e | e | e | e | e | e | e | e | e | e | e <;> subst e <;> rw [beg_eq _ (by decide)] <;> decide
theorem kw_beg (s : ByteArray) (h : kwB s = true) : begN s = 6 ∧ allR s = true := by
  have hm := inB_mem h
  simp only [kwT, List.mem_cons, List.not_mem_nil, or_false] at hm
  rcases hm with e | e | e | e | e | e | e | e | e | e | e | e | e | e | e | e | e | e | e | e | e | e | e | e | e <;> subst e <;> (constructor; (rw [beg_eq _ (by decide)]; decide); decide)
theorem beg_cases (s : ByteArray) : begN s = 0 ∨ begN s = 6 ∨ begN s = 7 ∨ begN s = 8 ∨ begN s = 9 := by
  by_cases h : 0 < s.size
  · rw [beg_eq s h]; cases lowB s[0] <;> cases capB s[0] <;> cases signB s[0] <;> cases ((s[0].toNat : Int) == 39) <;> cases secB s <;> simp
  · rw [beg_none s (by omega)]; simp
theorem mk_not (s : ByteArray) (h : begN s = 6 ∨ begN s = 7 ∨ begN s = 8) : mkB s = false := by
  cases e : mkB s
  · rfl
  · have := mk_beg s e; omega
theorem kw_not (s : ByteArray) (h : begN s ≠ 6) : kwB s = false := by
  cases e : kwB s
  · rfl
  · exact absurd (kw_beg s e).1 h
/-- Behind a first byte that begins a name with a letter. -/
theorem beg_first (s : ByteArray) (h : begN s = 6 ∨ begN s = 7 ∨ begN s = 8) : 0 < s.size ∧ allR s = allR (s.extract 1 s.size) := by
  by_cases h0 : 0 < s.size
  · refine ⟨h0, ?_⟩
    rw [allR_cons s h0]
    have : restB s[0] = true := by
      rw [beg_eq s h0] at h
      cases e1 : lowB s[0]
      · cases e2 : capB s[0]
        · cases e3 : signB s[0]
          · cases e4 : ((s[0].toNat : Int) == 39)
            · simp [e1, e2, e3, e4] at h
            · exact tick_rest _ e4
          · simp [e1, e2, e3] at h
        · exact cap_rest _ e2
      · exact low_rest _ e1
    rw [this, Bool.true_and]
  · rw [beg_none s (by omega)] at h; omega
end Go.Proofs.YtkjgkchdkeggoaaGreatDoor
