/-
  The document's Kind.
-/
import Derived.Test.YthknejgdchpaaaaDoorAll
namespace Go.Proofs.YthknejgdchpaaaaDoor
open Go.RowKit
set_option linter.unusedVariables false
set_option linter.unusedSimpArgs false

theorem bcell {W w1 : World} (hb : Below W.heap.size W w1) : (∀ b o, b < W.heap.size → w1.cell? ⟨b, o, none⟩ = W.cell? ⟨b, o, none⟩) :=
  fun b o h => hb.cell (p := ⟨b, o, none⟩) h
def tkR (s : ByteArray) (k : Nat) : Bool := (s.data.toList.take k).all restB
def tkS (s : ByteArray) (k : Nat) : Bool := (s.data.toList.take k).all signB
theorem tk_snoc (f : UInt8 → Bool) (s : ByteArray) (k : Nat) (h : k < s.size) : (s.data.toList.take (k + 1)).all f = ((s.data.toList.take k).all f && f s[k]) := by
  rw [List.take_succ_eq_append_getElem (by rw [data_len]; exact h), data_at s k h]; simp
/-- What the kind is behind the loop, where the text is no mark and not empty. -/
theorem ref_sign (s : ByteArray) (h0 : 0 < s.size) (hm : mkB s = false) (hs : allS s = true) : kindN s = 9 := by
  have h1 := allS_cons s h0 hs
  have hb : begN s = 9 := by
    rw [beg_eq s h0, h1]
    cases e1 : lowB s[0]
    · cases e2 : capB s[0]
      · rfl
      · have := rest_sign _ (cap_rest _ e2); rw [h1] at this; exact absurd this (by simp)
    · have := rest_sign _ (low_rest _ e1); rw [h1] at this; exact absurd this (by simp)
  unfold kindN; rw [hm, hb, hs]; rfl
theorem ref_not (s : ByteArray) (hm : mkB s = false) (hs : allS s = false) (hr : allR s = false) : kindN s = 0 := by
  unfold kindN; rw [hm, hs, hr]; cases begN s == 9 <;> cases begN s == 0 <;> rfl
theorem ref_rest (s : ByteArray) (h0 : 0 < s.size) (hm : mkB s = false) (hs : allS s = false) (hr : allR s = true) :
    kindN s = bif capB s[0] then 7 else bif (((s[0].toNat : Int) == 39) && secB s) then 8 else bif lowB s[0] then (bif kwB s then 10 else 6) else 0 := by
  have h1 := rest_sign _ (allR_first s h0 hr)
  have hb := beg_eq s h0
  have e1 := low_cap s[0]
  have e2 := tick_low s[0]
  have e3 := tick_cap s[0]
  have hk := kw_not s
  rw [h1] at hb
  unfold kindN
  rw [hm, hs, hr]
  cases a : capB s[0]
  · cases b : ((s[0].toNat : Int) == 39)
    · simp only [a, b, cond_false, Bool.false_and] at hb
      cases c : lowB s[0] <;> simp only [c, cond_true, cond_false] at hb <;> rw [hb] <;> cases kwB s <;> rfl
    · rw [e2 b, a, b] at hb
      rw [e2 b]
      cases d : secB s <;> simp only [d, cond_true, cond_false, Bool.true_and] at hb <;> rw [hb] <;> rw [hb] at hk <;> simp only [hk (by omega)] <;> rfl
  · rw [e1 a, a] at hb
    simp only [cond_true, cond_false] at hb
    rw [hb] at hk ⊢
    rw [hk (by omega)]
    rfl

set_option maxHeartbeats 2000000 in
theorem refKind_none (s : ByteArray) (w : World) (h0 : s.size = 0) : Calls Tryd.prog 13 #[.string s] w fun e w' => e = .returned (.int .i64 (kindN s)) ∧ Below w.heap.size w w' := by
  have he : s.toList = [] := by rw [Lib.toList_data, ← List.length_eq_zero_iff, data_len]; exact h0
  have hem : s.toList.isEmpty = true := by rw [he]; rfl
  have HN : Hid (kindN s = 0) := Lib.hid (by
    have hm : mkB s = false := by rw [mk_iff s, he]; rfl
    unfold kindN; rw [hm, beg_none s h0]; rfl)
  clear h0 he
  go_enter Tryd.func13, Tryd.ntmps13
  go_wp2
  go_ret
  exact ⟨ret_int HN.out.symm, Below.refl _ _⟩

set_option maxHeartbeats 2000000 in
theorem refKind_some (s : ByteArray) (w : World) (h0 : 0 < s.size) (hs : s.size ≤ 9223372036854775807) : Calls Tryd.prog 13 #[.string s] w fun e w' => e = .returned (.int .i64 (kindN s)) ∧ Below w.heap.size w w' := by
  have hem : s.toList.isEmpty = false := by
    rw [Lib.toList_data]
    cases e : s.data.toList with
    | nil => have := data_len s; rw [e] at this; simp at this; omega
    | cons => rfl
  have HN1 := ref_sign s h0
  have HN2 := ref_not s
  have HN3 := ref_rest s h0
  cases hm : mkB s
  case true =>
    have HN : Hid (kindN s = 11) := Lib.hid (by unfold kindN; rw [hm]; rfl)
    clear HN1 HN2 HN3
    go_enter Tryd.func13, Tryd.ntmps13
    go_wp2_with (first | (go_at_call 18; refine (marks_any w).mono ?_; rintro e w1 ⟨rfl, hi, hb⟩) | (go_at_call 15; refine (in_any mkT s _ 12 12 _ hi (by omega)).mono ?_; rw [show inB mkT s = true from hm]; rintro e w2 ⟨rfl, rfl⟩))
    go_ret
    exact ⟨ret_int HN.out.symm, hb⟩
  have HL : Hid (mkB s = false) := Lib.hid hm
  have h1 := Lib.hid (HN1 hm)
  have h2 := Lib.hid (HN2 hm)
  have h3 := Lib.hid (HN3 hm)
  clear HN1 HN2 HN3 hm
  go_enter Tryd.func13, Tryd.ntmps13
  go_wp2_with (first | (go_at_call 18; refine (marks_any w).mono ?_; rintro e w1 ⟨rfl, hi, hb⟩) | (go_at_call 15; refine (in_any mkT s _ 12 12 _ hi (by omega)).mono ?_; rw [show inB mkT s = false from HL.out]; rintro e w2 ⟨rfl, rfl⟩))
  clear hi
  go_loop [3, 4, 5] (fun r g i => ∃ k : Nat, k ≤ s.size ∧ i = .int .i64 k ∧ r = .bool (tkR s k) ∧ g = .bool (tkS s k)) (fun _ _ i => s.size - (intOf i).toNat)
  case atStart => exact ⟨0, by omega, rfl, rfl, rfl⟩
  case round =>
    obtain ⟨k, hk, rfl, rfl, rfl⟩ := hrel
    by_cases hlt : k < s.size
    · have HR := fun w => refRest_any s[k] w
      have HS := fun w => signs_any s[k] w
      have E1 := Lib.hid (tk_snoc restB s k hlt)
      have E2 := Lib.hid (tk_snoc signB s k hlt)
      have F1 : Hid (tkR s (k + 1) = (tkR s k && restB s[k])) := Lib.hid E1.out
      have F2 : Hid (tkS s (k + 1) = (tkS s k && signB s[k])) := Lib.hid E2.out
      clear E1 E2
      cases ha : tkR s k <;> cases hb : tkS s k <;> cases hc : restB s[k] <;> cases hd : signB s[k] <;> simp only [ha, hb, hc, hd, Bool.and_true, Bool.and_false] at F1 F2 HR HS <;> clear ha hb hc hd
      all_goals
        go_wp2_with (first | (go_at_call 28; refine (HR _).mono ?_; rintro e w2 ⟨rfl, rfl⟩) | (go_at_call 33; refine (HS _).mono ?_; rintro e w2 ⟨rfl, rfl⟩))
        go_round
        case rel => exact ⟨k + 1, by omega, by go_num, by rw [F1.out], by rw [F2.out]⟩
        case measure => simp [intOf]; omega
    · have e1 : tkR s k = allR s := by unfold tkR allR; rw [List.take_of_length_le (by rw [data_len]; omega)]
      have e2 : tkS s k = allS s := by unfold tkS allS; rw [List.take_of_length_le (by rw [data_len]; omega)]
      rw [e1, e2]
      cases hS : allS s
      case true =>
        have HN := Lib.hid (h1.out hS)
        clear e1 e2 hS
        go_wp2
        go_ret
        exact ⟨ret_int HN.out.symm, hb⟩
      cases hR : allR s
      case false =>
        have HN := Lib.hid (h2.out hS hR)
        clear e1 e2 hS hR
        go_wp2
        go_ret
        exact ⟨ret_int HN.out.symm, hb⟩
      have HN := Lib.hid (h3.out hS hR)
      have HC := fun w => great_any s[0] w
      have HLo := fun w => small_any s[0] w
      have HK0 : Hid (inB kwT s = kwB s) := Lib.hid rfl
      clear e1 e2 hS hR h1 h2 h3
      cases hcap : capB s[0]
      case true =>
        simp only [hcap, cond_true] at HN HC
        clear hcap
        go_wp2_with (first | (go_at_call 34; refine (HC _).mono ?_; rintro e w2 ⟨rfl, rfl⟩))
        go_ret
        exact ⟨ret_int HN.out.symm, hb⟩
      simp only [hcap, cond_false] at HN HC
      clear hcap
      have hsec : secB s = true → 1 < s.size := by
        intro h
        by_cases h1 : s.size = 1
        · unfold secB at h; rw [toList_one s h1] at h; simp at h
        · omega
      cases hq : (((s[0].toNat : Int) == 39) && secB s)
      case true =>
        obtain ⟨hq1, hq2⟩ := Bool.and_eq_true_iff.1 hq
        have hz := hsec hq2
        have HD := fun w => small_any s[1] w
        have hl : lowB s[1] = true := by unfold secB at hq2; rw [toList_more s hz] at hq2; exact hq2
        simp only [hq, cond_true] at HN
        simp only [hl] at HD
        clear hq hq2 hsec hl
        go_wp2_with (first | (go_at_call 34; refine (HC _).mono ?_; rintro e w2 ⟨rfl, rfl⟩) | (go_at_call 35; refine (HD _).mono ?_; rintro e w2 ⟨rfl, rfl⟩))
        go_ret
        exact ⟨ret_int HN.out.symm, hb⟩
      simp only [hq, cond_false] at HN
      cases hq1 : ((s[0].toNat : Int) == 39)
      case true =>
        have hlo := tick_low _ hq1
        have hs2 : secB s = false := by rw [hq1, Bool.true_and] at hq; exact hq
        simp only [hlo, cond_false] at HN HLo
        clear hlo hq hsec
        by_cases hz : s.size = 1
        · have hz' : s.size ≤ 1 := by omega
          clear hs2 hz
          go_wp2_with (first | (go_at_call 34; refine (HC _).mono ?_; rintro e w2 ⟨rfl, rfl⟩) | (go_at_call 35; refine (HLo _).mono ?_; rintro e w2 ⟨rfl, rfl⟩))
          go_ret
          exact ⟨ret_int HN.out.symm, hb⟩
        · have hz' : 1 < s.size := by omega
          have HD := fun w => small_any s[1] w
          have hl : lowB s[1] = false := by unfold secB at hs2; rw [toList_more s hz'] at hs2; exact hs2
          simp only [hl] at HD
          clear hs2 hz hl
          go_wp2_with (first | (go_at_call 34; refine (HC _).mono ?_; rintro e w2 ⟨rfl, rfl⟩) | (go_at_call 35; refine (HLo _).mono ?_; rintro e w2 ⟨rfl, rfl⟩) | (go_at_call 35; refine (HD _).mono ?_; rintro e w2 ⟨rfl, rfl⟩))
          go_ret
          exact ⟨ret_int HN.out.symm, hb⟩
      clear hq hsec
      cases hl : lowB s[0] <;> simp only [hl, cond_true, cond_false] at HN HLo <;> clear hl
      case false =>
        go_wp2_with (first | (go_at_call 34; refine (HC _).mono ?_; rintro e w2 ⟨rfl, rfl⟩) | (go_at_call 35; refine (HLo _).mono ?_; rintro e w2 ⟨rfl, rfl⟩))
        go_ret
        exact ⟨ret_int HN.out.symm, hb⟩
      cases hkw : kwB s
      all_goals
        rw [hkw] at HK0
        simp only [hkw, cond_true, cond_false] at HN
        clear hkw
        go_wp2_with (first | (go_at_call 34; refine (HC _).mono ?_; rintro e w2 ⟨rfl, rfl⟩) | (go_at_call 35; refine (HLo _).mono ?_; rintro e w2 ⟨rfl, rfl⟩) | (go_at_call 16; refine (refKeywords_any _).mono ?_; rintro e w2 ⟨rfl, hi2, hb2⟩) | (go_at_call 15; refine (in_any kwT s _ 25 25 _ hi2 (by omega)).mono ?_; rw [HK0.out]; rintro e w3 ⟨rfl, rfl⟩))
        go_ret
        exact ⟨ret_int HN.out.symm, hb.trans (hb2.mono hb.size)⟩
theorem refKind_any (s : ByteArray) (w : World) (hs : s.size ≤ 9223372036854775807) : Calls Tryd.prog 13 #[.string s] w fun e w' => e = .returned (.int .i64 (kindN s)) ∧ Below w.heap.size w w' := by
  by_cases h0 : s.size = 0
  · exact refKind_none s w h0
  · exact refKind_some s w (by omega) hs
end Go.Proofs.YthknejgdchpaaaaDoor
