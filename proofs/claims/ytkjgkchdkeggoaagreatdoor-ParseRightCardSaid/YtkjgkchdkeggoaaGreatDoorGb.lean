/-
  The document's Kind.; The document's lexer: bytes, notes, texts.; The document's lexer: the token at a place.; The document's lexer: all tokens of a text, those that say something, and the first bad one.; Counting how often tokens are met: a new row of zeros, and one more.
-/
import Derived.Test.YtkjgkchdkeggoaaGreatDoorAll
import Derived.Test.YtkjgkchdkeggoaaGreatDoorGa
import Derived.Test.YtkjgkchdkeggoaaGreatDoorKeep
import Derived.Test.YtkjgkchdkeggoaaGreatDoorFiles
import Derived.Test.YtkjgkchdkeggoaaGreatDoorFirst
import Derived.Laws.MakeOwn
namespace Go.Proofs.YtkjgkchdkeggoaaGreatDoor
open Go.RowKit
set_option maxRecDepth 20000
set_option linter.unusedVariables false
set_option linter.unusedSimpArgs false

theorem bcell {W w1 : World} (hb : Below W.heap.size W w1) : (∀ b o, b < W.heap.size → w1.cell? ⟨b, o, none⟩ = W.cell? ⟨b, o, none⟩) :=
 fun b o h => hb.cell (p := ⟨b, o, none⟩) h
def tkR (s : ByteArray) (k : Nat) : Bool := (s.data.toList.take k).all restB
def tkS (s : ByteArray) (k : Nat) : Bool := (s.data.toList.take k).all signB
theorem tk_snoc (f : UInt8 → Bool) (s : ByteArray) (k : Nat) (h : k < s.size) : (s.data.toList.take (k + 1)).all f = ((s.data.toList.take k).all f && f s[k]) := by
 rw [List.take_succ_eq_append_getElem (by rw [data_len]; exact h), data_at s k h]; simp
/-- What the kind is behind the loop, where the text is no mark and not empty. -/
theorem ref_sign (s : ByteArray) (h0 : 0 < s.size) (hm : mkB s = false) (hs : allS s = true) : kindN s = 9 := by
 have h1 := allS_cons s h0 hs
 have hb : begN s = 9 := by
  rw [beg_eq s h0, h1]
  cases e1 : lowB s[0]
  ·cases e2 : capB s[0]
   ·rfl
   ·have := rest_sign _ (cap_rest _ e2); rw [h1] at this; exact absurd this (by simp)
  ·have := rest_sign _ (low_rest _ e1); rw [h1] at this; exact absurd this (by simp)
 unfold kindN; rw [hm, hb, hs]; rfl
theorem ref_not (s : ByteArray) (hm : mkB s = false) (hs : allS s = false) (hr : allR s = false) : kindN s = 0 := by
 unfold kindN; rw [hm, hs, hr]; cases begN s == 9 <;> cases begN s == 0 <;> rfl
theorem ref_rest (s : ByteArray) (h0 : 0 < s.size) (hm : mkB s = false) (hs : allS s = false) (hr : allR s = true) :
  kindN s = bif capB s[0] then 7 else bif (((s[0].toNat : Int) == 39) && secB s) then 8 else bif lowB s[0] then (bif kwB s then 10 else 6) else 0 := by
 have h1 := rest_sign _ (allR_first s h0 hr)
 have hb := beg_eq s h0
 have e1 := low_cap s[0]
 have e2 := tick_low s[0]
 have e3 := tick_cap s[0]
 have hk := kw_not s
 rw [h1] at hb
 unfold kindN
 rw [hm, hs, hr]
 cases a : capB s[0]
 ·cases b : ((s[0].toNat : Int) == 39)
  ·simp only [a, b, cond_false, Bool.false_and] at hb
   cases c : lowB s[0] <;> simp only [c, cond_true, cond_false] at hb <;> rw [hb] <;> cases kwB s <;> rfl
  ·rw [e2 b, a, b] at hb
   rw [e2 b]
   cases d : secB s <;> simp only [d, cond_true, cond_false, Bool.true_and] at hb <;> rw [hb] <;> rw [hb] at hk <;> simp only [hk (by omega)] <;> rfl
 ·rw [e1 a, a] at hb
  simp only [cond_true, cond_false] at hb
  rw [hb] at hk ⊢
  rw [hk (by omega)]
  rfl

set_option maxHeartbeats 2000000 in
theorem refKind_none (s : ByteArray) (w : World) (h0 : s.size = 0) : Calls Tryz.prog 67 #[.string s] w fun e w' => e = .returned (.int .i64 (kindN s)) ∧ Below w.heap.size w w' := by
 have he : s.toList = [] := by rw [Lib.toList_data, ← List.length_eq_zero_iff, data_len]; exact h0
 have hem : s.toList.isEmpty = true := by rw [he]; rfl
 have HN : Hid (kindN s = 0) := Lib.hid (by
  have hm : mkB s = false := by rw [mk_iff s, he]; rfl
  unfold kindN; rw [hm, beg_none s h0]; rfl)
 clear h0 he
 go_enter Tryz.func67, Tryz.ntmps67
 go_wp2
 go_ret
 exact ⟨ret_int HN.out.symm, Below.refl _ _⟩

set_option maxHeartbeats 2000000 in
theorem refKind_some (s : ByteArray) (w : World) (h0 : 0 < s.size) (hs : s.size ≤ 9223372036854775807) : Calls Tryz.prog 67 #[.string s] w fun e w' => e = .returned (.int .i64 (kindN s)) ∧ Below w.heap.size w w' := by
 have hem : s.toList.isEmpty = false := by
  rw [Lib.toList_data]
  cases e : s.data.toList with
  | nil => have := data_len s; rw [e] at this; simp at this; omega
  | cons => rfl
 have HN1 := ref_sign s h0
 have HN2 := ref_not s
 have HN3 := ref_rest s h0
 cases hm : mkB s
 case true =>
  have HN : Hid (kindN s = 11) := Lib.hid (by unfold kindN; rw [hm]; rfl)
  clear HN1 HN2 HN3
  go_enter Tryz.func67, Tryz.ntmps67
  go_wp2_with (first | (go_at_call 92; refine (marks_any w).mono ?_; rintro e w1 ⟨rfl, hi, hb⟩) | (go_at_call 91; refine (in_any mkT s _ 12 12 _ hi (by omega)).mono ?_; rw [show inB mkT s = true from hm]; rintro e w2 ⟨rfl, rfl⟩))
  go_ret
  exact ⟨ret_int HN.out.symm, hb⟩
 have HL : Hid (mkB s = false) := Lib.hid hm
 have h1 := Lib.hid (HN1 hm)
 have h2 := Lib.hid (HN2 hm)
 have h3 := Lib.hid (HN3 hm)
 clear HN1 HN2 HN3 hm
 go_enter Tryz.func67, Tryz.ntmps67
 go_wp2_with (first | (go_at_call 92; refine (marks_any w).mono ?_; rintro e w1 ⟨rfl, hi, hb⟩) | (go_at_call 91; refine (in_any mkT s _ 12 12 _ hi (by omega)).mono ?_; rw [show inB mkT s = false from HL.out]; rintro e w2 ⟨rfl, rfl⟩))
 clear hi
 go_loop [3, 4, 5] (fun r g i => ∃ k : Nat, k ≤ s.size ∧ i = .int .i64 k ∧ r = .bool (tkR s k) ∧ g = .bool (tkS s k)) (fun _ _ i => s.size - (intOf i).toNat)
 case atStart => exact ⟨0, by omega, rfl, rfl, rfl⟩
 case round =>
  obtain ⟨k, hk, rfl, rfl, rfl⟩ := hrel
  by_cases hlt : k < s.size
  ·have HR := fun w => refRest_any s[k] w
   have HS := fun w => signs_any s[k] w
   have E1 := Lib.hid (tk_snoc restB s k hlt)
   have E2 := Lib.hid (tk_snoc signB s k hlt)
   have F1 : Hid (tkR s (k + 1) = (tkR s k && restB s[k])) := Lib.hid E1.out
   have F2 : Hid (tkS s (k + 1) = (tkS s k && signB s[k])) := Lib.hid E2.out
   clear E1 E2
   cases ha : tkR s k <;> cases hb : tkS s k <;> cases hc : restB s[k] <;> cases hd : signB s[k] <;> simp only [ha, hb, hc, hd, Bool.and_true, Bool.and_false] at F1 F2 HR HS <;> clear ha hb hc hd
   all_goals
    go_wp2_with (first | (go_at_call 64; refine (HR _).mono ?_; rintro e w2 ⟨rfl, rfl⟩) | (go_at_call 66; refine (HS _).mono ?_; rintro e w2 ⟨rfl, rfl⟩))
    go_round
    case rel => exact ⟨k + 1, by omega, by go_num, by rw [F1.out], by rw [F2.out]⟩
    case measure => simp [intOf]; omega
  ·have e1 : tkR s k = allR s := by unfold tkR allR; rw [List.take_of_length_le (by rw [data_len]; omega)]
   have e2 : tkS s k = allS s := by unfold tkS allS; rw [List.take_of_length_le (by rw [data_len]; omega)]
   rw [e1, e2]
   cases hS : allS s
   case true =>
    have HN := Lib.hid (h1.out hS)
    clear e1 e2 hS
    go_wp2
    go_ret
    exact ⟨ret_int HN.out.symm, hb⟩
   cases hR : allR s
   case false =>
    have HN := Lib.hid (h2.out hS hR)
    clear e1 e2 hS hR
    go_wp2
    go_ret
    exact ⟨ret_int HN.out.symm, hb⟩
   have HN := Lib.hid (h3.out hS hR)
   have HC := fun w => great_any s[0] w
   have HLo := fun w => small_any s[0] w
   have HK0 : Hid (inB kwT s = kwB s) := Lib.hid rfl
   clear e1 e2 hS hR h1 h2 h3
   cases hcap : capB s[0]
   case true =>
    simp only [hcap, cond_true] at HN HC
    clear hcap
    go_wp2_with (first | (go_at_call 90; refine (HC _).mono ?_; rintro e w2 ⟨rfl, rfl⟩))
    go_ret
    exact ⟨ret_int HN.out.symm, hb⟩
   simp only [hcap, cond_false] at HN HC
   clear hcap
   have hsec : secB s = true → 1 < s.size := by
    intro h
    by_cases h1 : s.size = 1
    ·unfold secB at h; rw [toList_one s h1] at h; simp at h
    ·omega
   cases hq : (((s[0].toNat : Int) == 39) && secB s)
   case true =>
    obtain ⟨hq1, hq2⟩ := Bool.and_eq_true_iff.1 hq
    have hz := hsec hq2
    have HD := fun w => small_any s[1] w
    have hl : lowB s[1] = true := by unfold secB at hq2; rw [toList_more s hz] at hq2; exact hq2
    simp only [hq, cond_true] at HN
    simp only [hl] at HD
    clear hq hq2 hsec hl
    go_wp2_with (first | (go_at_call 90; refine (HC _).mono ?_; rintro e w2 ⟨rfl, rfl⟩) | (go_at_call 89; refine (HD _).mono ?_; rintro e w2 ⟨rfl, rfl⟩))
    go_ret
    exact ⟨ret_int HN.out.symm, hb⟩
   simp only [hq, cond_false] at HN
   cases hq1 : ((s[0].toNat : Int) == 39)
   case true =>
    have hlo := tick_low _ hq1
    have hs2 : secB s = false := by rw [hq1, Bool.true_and] at hq; exact hq
    simp only [hlo, cond_false] at HN HLo
    clear hlo hq hsec
    by_cases hz : s.size = 1
    ·have hz' : s.size ≤ 1 := by omega
     clear hs2 hz
     go_wp2_with (first | (go_at_call 90; refine (HC _).mono ?_; rintro e w2 ⟨rfl, rfl⟩) | (go_at_call 89; refine (HLo _).mono ?_; rintro e w2 ⟨rfl, rfl⟩))
     go_ret
     exact ⟨ret_int HN.out.symm, hb⟩
    ·have hz' : 1 < s.size := by omega
     have HD := fun w => small_any s[1] w
     have hl : lowB s[1] = false := by unfold secB at hs2; rw [toList_more s hz'] at hs2; exact hs2
     simp only [hl] at HD
     clear hs2 hz hl
     go_wp2_with (first | (go_at_call 90; refine (HC _).mono ?_; rintro e w2 ⟨rfl, rfl⟩) | (go_at_call 89; refine (HLo _).mono ?_; rintro e w2 ⟨rfl, rfl⟩) | (go_at_call 89; refine (HD _).mono ?_; rintro e w2 ⟨rfl, rfl⟩))
     go_ret
     exact ⟨ret_int HN.out.symm, hb⟩
   clear hq hsec
   cases hl : lowB s[0] <;> simp only [hl, cond_true, cond_false] at HN HLo <;> clear hl
   case false =>
    go_wp2_with (first | (go_at_call 90; refine (HC _).mono ?_; rintro e w2 ⟨rfl, rfl⟩) | (go_at_call 89; refine (HLo _).mono ?_; rintro e w2 ⟨rfl, rfl⟩))
    go_ret
    exact ⟨ret_int HN.out.symm, hb⟩
   cases hkw : kwB s
   all_goals
    rw [hkw] at HK0
    simp only [hkw, cond_true, cond_false] at HN
    clear hkw
    go_wp2_with (first | (go_at_call 90; refine (HC _).mono ?_; rintro e w2 ⟨rfl, rfl⟩) | (go_at_call 89; refine (HLo _).mono ?_; rintro e w2 ⟨rfl, rfl⟩) | (go_at_call 93; refine (refKeywords_any _).mono ?_; rintro e w2 ⟨rfl, hi2, hb2⟩) | (go_at_call 91; refine (in_any kwT s _ 25 25 _ hi2 (by omega)).mono ?_; rw [HK0.out]; rintro e w3 ⟨rfl, rfl⟩))
    go_ret
    exact ⟨ret_int HN.out.symm, hb.trans (hb2.mono hb.size)⟩
theorem refKind_any (s : ByteArray) (w : World) (hs : s.size ≤ 9223372036854775807) : Calls Tryz.prog 67 #[.string s] w fun e w' => e = .returned (.int .i64 (kindN s)) ∧ Below w.heap.size w w' := by
 by_cases h0 : s.size = 0
 ·exact refKind_none s w h0
 ·exact refKind_some s w (by omega) hs
end Go.Proofs.YtkjgkchdkeggoaaGreatDoor

namespace Go.Proofs.YtkjgkchdkeggoaaGreatDoor
open Go.RowKit
set_option maxRecDepth 20000
set_option linter.unusedVariables false
set_option linter.unusedSimpArgs false

theorem dblank_any (c : UInt8) (w : World) : Calls Tryz.prog 61 #[.int .u8 (c.toNat : Int)] w fun e w' => e = .returned (.bool (blankB c)) ∧ w = w' := by
 have hc := c.toNat_lt
 have HB : Hid (blankB c = (((c.toNat : Int) == 32) || ((c.toNat : Int) == 9) || ((c.toNat : Int) == 10) || ((c.toNat : Int) == 13))) := Lib.hid rfl
 go_enter Tryz.func61, Tryz.ntmps61
 go_wp2
 all_goals
  go_ret
  exact ⟨ret_bool (by simp [HB.out, *]), rfl⟩
theorem ddigit_any (c : UInt8) (w : World) : Calls Tryz.prog 65 #[.int .u8 (c.toNat : Int)] w fun e w' => e = .returned (.bool (digB c)) ∧ w = w' := by
 have hc := c.toNat_lt
 by_cases h1 : 48 ≤ c.toNat
 ·have h : Hid (digB c = decide ((c.toNat : Int) ≤ 57)) := Lib.hid (by unfold digB; rw [Bool.eq_iff_iff]; simp; omega)
  go_enter Tryz.func65, Tryz.ntmps65
  go_wp2
  go_ret
  exact ⟨ret_bool h.out.symm, rfl⟩
 ·have h : Hid (digB c = false) := Lib.hid (by unfold digB; simp; omega)
  go_enter Tryz.func65, Tryz.ntmps65
  go_wp2
  go_ret
  exact ⟨ret_bool h.out.symm, rfl⟩

/-- The end of notes, as the document finds it. -/
def dn : Int → List UInt8 → Option Nat
 | D, a :: b :: r =>
  bif ((a.toNat : Int) == 40) && ((b.toNat : Int) == 42) then (dn (D + 1) r).map (· + 2)
  else bif ((a.toNat : Int) == 42) && ((b.toNat : Int) == 41) then (bif D - 1 == 0 then some 2 else (dn (D - 1) r).map (· + 2))
  else (dn D (b :: r)).map (· + 1)
 | _, _ => none
def dnR (s : ByteArray) (D : Int) (k : Nat) : Int := match dn D (s.data.toList.drop k) with | some m => ((k + m : Nat) : Int) | none => 0
theorem drop_two (s : ByteArray) (k : Nat) (h : k + 1 < s.size) : s.data.toList.drop k = s[k] :: s[k + 1] :: s.data.toList.drop (k + 2) := by
 rw [drop_at s k (by omega), drop_at s (k + 1) h]
theorem drop_short (s : ByteArray) (D : Int) (k : Nat) (h : s.size ≤ k + 1) : dnR s D k = 0 := by
 unfold dnR
 have hl : (s.data.toList.drop k).length ≤ 1 := by rw [List.length_drop, data_len]; omega
 match hd : s.data.toList.drop k, hl with
 | [], _ => rfl
 | [a], _ => rfl
theorem dnR_open (s : ByteArray) (D : Int) (k : Nat) (h : k + 1 < s.size) (h1 : ((s[k].toNat : Int) == 40) = true) (h2 : ((s[k + 1].toNat : Int) == 42) = true) : dnR s D k = dnR s (D + 1) (k + 2) := by
 unfold dnR
 rw [drop_two s k h]
 simp only [dn, h1, h2, Bool.and_self, cond_true]
 cases dn (D + 1) (s.data.toList.drop (k + 2)) with
 | none => rfl
 | some m => show ((k + (m + 2) : Nat) : Int) = ((k + 2 + m : Nat) : Int); omega
theorem dnR_shut (s : ByteArray) (D : Int) (k : Nat) (h : k + 1 < s.size) (h1 : ((s[k].toNat : Int) == 42) = true) (h2 : ((s[k + 1].toNat : Int) == 41) = true) (h3 : (D - 1 == 0) = false) : dnR s D k = dnR s (D - 1) (k + 2) := by
 have h4 : ((s[k].toNat : Int) == 40) = false := by rw [beq_iff_eq.1 h1]; rfl
 unfold dnR
 rw [drop_two s k h]
 simp only [dn, h1, h2, h3, h4, Bool.and_self, Bool.false_and, cond_true, cond_false]
 cases dn (D - 1) (s.data.toList.drop (k + 2)) with
 | none => rfl
 | some m => show ((k + (m + 2) : Nat) : Int) = ((k + 2 + m : Nat) : Int); omega
theorem dnR_end (s : ByteArray) (D : Int) (k : Nat) (h : k + 1 < s.size) (h1 : ((s[k].toNat : Int) == 42) = true) (h2 : ((s[k + 1].toNat : Int) == 41) = true) (h3 : (D - 1 == 0) = true) : dnR s D k = ((k + 2 : Nat) : Int) := by
 have h4 : ((s[k].toNat : Int) == 40) = false := by rw [beq_iff_eq.1 h1]; rfl
 unfold dnR
 rw [drop_two s k h]
 simp only [dn, h1, h2, h3, h4, Bool.and_self, Bool.false_and, cond_true, cond_false]
theorem dnR_more (s : ByteArray) (D : Int) (k : Nat) (h : k + 1 < s.size) (h1 : (((s[k].toNat : Int) == 40) && ((s[k + 1].toNat : Int) == 42)) = false) (h2 : (((s[k].toNat : Int) == 42) && ((s[k + 1].toNat : Int) == 41)) = false) : dnR s D k = dnR s D (k + 1) := by
 unfold dnR
 rw [drop_two s k h]
 simp only [dn, h1, h2, cond_false]
 rw [drop_at s (k + 1) h]
 cases dn D (s[k + 1] :: s.data.toList.drop (k + 1 + 1)) with
 | none => rfl
 | some m => show ((k + (m + 1) : Nat) : Int) = ((k + 1 + m : Nat) : Int); omega

set_option maxHeartbeats 2000000 in
theorem dnote_any (s : ByteArray) (hs : s.size ≤ 1000000) (a : Nat) (ha : a < s.size) (w : World) : Calls Tryz.prog 62 #[.string s, .int .i64 (a : Int)] w fun e w' => e = .returned (.int .i64 (dnR s 0 a)) ∧ w = w' := by
 obtain ⟨R, hR⟩ : ∃ R, R = dnR s 0 a := ⟨_, rfl⟩
 rw [← hR]
 have HR := Lib.hid hR
 clear hR
 go_enter Tryz.func62, Tryz.ntmps62
 go_wp2
 go_loop [5, 6] (fun dp i => ∃ (D : Int) (k : Nat), k ≤ s.size ∧ -(k : Int) ≤ D ∧ D ≤ k ∧ i = .int .i64 k ∧ dp = .int .i64 D ∧ Hid (R = dnR s D k)) (fun _ i => s.size - (intOf i).toNat)
 case atStart => exact ⟨0, a, by omega, by omega, by omega, rfl, rfl, HR⟩
 case round =>
  obtain ⟨D, k, hk, hd1, hd2, rfl, rfl, hq⟩ := hrel
  clear HR
  obtain ⟨j, hj⟩ : ∃ j : Nat, (k : Int) + 1 = (j : Int) := ⟨k + 1, by omega⟩
  by_cases hlt : k + 1 < s.size
  ·have hjk : j = k + 1 := by omega
   have hjlt : j < s.size := by omega
   have hklt : k < s.size := by omega
   have q1 := dnR_open s D k hlt
   have q2 := dnR_shut s D k hlt
   have q3 := dnR_end s D k hlt
   have q4 := dnR_more s D k hlt
   have ej : s[k + 1] = s[j] := by simp [hjk]
   rw [ej] at q1 q2 q3 q4
   clear ej
   have hnx : (j : Int) + 1 = ((j + 1 : Nat) : Int) := by omega
   have hm1 : s.size - (intOf (.int .i64 ((j + 1 : Nat) : Int))).toNat < s.size - (intOf (.int .i64 (k : Int))).toNat := by simp [intOf]; omega
   have hm2 : s.size - (intOf (.int .i64 (j : Int))).toNat < s.size - (intOf (.int .i64 (k : Int))).toNat := by simp [intOf]; omega
   have HM1 := Lib.hid hm1
   have HM2 := Lib.hid hm2
   clear hm1 hm2
   have HJ := Lib.hid hjk
   have HX := Lib.hid hnx
   clear hjk hnx
   cases h1 : ((s[k].toNat : Int) == 40)
   case false =>
    cases h3 : ((s[k].toNat : Int) == 42)
    case false =>
     have HN := Lib.hid (hq.out.trans (q4 (by rw [h1]; rfl) (by rw [h3]; rfl)))
     clear q1 q2 q3 q4 hq
     go_wp2
     go_round
     case rel => exact ⟨D, k + 1, by have := HJ.out; omega, by omega, by omega, by rw [← HJ.out], rfl, HN⟩
     case measure => exact HM2.out
    case true =>
     cases h4 : ((s[j].toNat : Int) == 41)
     case false =>
      have HN := Lib.hid (hq.out.trans (q4 (by rw [h1]; rfl) (by rw [h4]; simp)))
      clear q1 q2 q3 q4 hq
      go_wp2
      go_round
      case rel => exact ⟨D, k + 1, by have := HJ.out; omega, by omega, by omega, by rw [← HJ.out], rfl, HN⟩
      case measure => exact HM2.out
     case true =>
      cases h5 : (D - 1 == 0)
      case false =>
       have HN := Lib.hid (hq.out.trans (q2 h3 h4 h5))
       clear q1 q2 q3 q4 hq
       go_wp2
       go_round
       case rel => exact ⟨D - 1, k + 2, by have := HJ.out; omega, by omega, by omega, by rw [HX.out, HJ.out], rfl, HN⟩
       case measure => rw [HX.out]; exact HM1.out
      case true =>
       have HN := Lib.hid (hq.out.trans (q3 h3 h4 h5))
       clear q1 q2 q3 q4 hq
       go_wp2
       go_ret
       exact ⟨ret_int (by rw [HN.out, HX.out, HJ.out]), rfl⟩
   case true =>
    have h3 : ((s[k].toNat : Int) == 42) = false := by rw [beq_iff_eq.1 h1]; rfl
    cases h2 : ((s[j].toNat : Int) == 42)
    case false =>
     have HN := Lib.hid (hq.out.trans (q4 (by rw [h2]; simp) (by rw [h3]; rfl)))
     clear q1 q2 q3 q4 hq
     go_wp2
     go_round
     case rel => exact ⟨D, k + 1, by have := HJ.out; omega, by omega, by omega, by rw [← HJ.out], rfl, HN⟩
     case measure => exact HM2.out
    case true =>
     have HN := Lib.hid (hq.out.trans (q1 h1 h2))
     clear q1 q2 q3 q4 hq
     go_wp2
     go_round
     case rel => exact ⟨D + 1, k + 2, by have := HJ.out; omega, by omega, by omega, by rw [HX.out, HJ.out], rfl, HN⟩
     case measure => rw [HX.out]; exact HM1.out
  ·have HN := Lib.hid (hq.out.trans (drop_short s D k (by omega)))
   have hge : (s.size : Int) ≤ (j : Int) := by omega
   clear hq
   go_wp2
   go_ret
   exact ⟨ret_int HN.out.symm, rfl⟩

/-- Within notes the document's way is the machine's. -/
theorem dn_pass : ∀ (n : Nat) (r : List UInt8) (D : Int) (a : UInt8), r.length ≤ n → 1 ≤ D → dn D (a :: r) = bif passN nF (D, a) r == r.length then none else some (passN nF (D, a) r + 2) := by
 intro n
 induction n with
 | zero =>
  intro r D a hn hD
  have : r = [] := List.length_eq_zero_iff.1 (by omega)
  subst this
  rfl
 | succ n ih =>
  intro r D a hn hD
  cases r with
  | nil => rfl
  | cons b r =>
   simp only [List.length_cons] at hn
   have two : ∀ E : Int, 1 ≤ E → (dn E r).map (· + 2) = bif passN nF (E, 0) r + 1 == r.length + 1 then none else some (passN nF (E, 0) r + 1 + 2) := by
    intro E hE
    cases r with
    | nil => rfl
    | cons c r =>
     have e0 : passN nF (E, 0) (c :: r) = passN nF (E, c) r + 1 := by
      simp [passN, nF, eqB]
     rw [ih r E c (by simp at hn; omega) hE, e0]
     simp only [List.length_cons]
     generalize passN nF (E, c) r = p
     by_cases hp : p = r.length
     ·subst hp; simp
     ·have h1 : (p == r.length) = false := by simpa using hp
      have h2 : (p + 1 + 1 == r.length + 1 + 1) = false := by simp; omega
      rw [h1, h2]
      simp
   simp only [dn, List.length_cons]
   cases h1 : (((a.toNat : Int) == 40) && ((b.toNat : Int) == 42))
   ·cases h2 : (((a.toNat : Int) == 42) && ((b.toNat : Int) == 41))
    ·have e0 : passN nF (D, a) (b :: r) = passN nF (D, b) r + 1 := by
      simp [passN, nF, eqB, h1, h2]
     rw [e0]
     simp only [cond_false]
     rw [ih r D b (by omega) hD]
     generalize passN nF (D, b) r = p
     by_cases hp : p = r.length
     ·subst hp; simp
     ·have h1 : (p == r.length) = false := by simpa using hp
      have h2 : (p + 1 == r.length + 1) = false := by simp; omega
      rw [h1, h2]
      simp
    ·simp only [cond_true, cond_false]
     by_cases hD1 : D - 1 = 0
     ·have e0 : passN nF (D, a) (b :: r) = 0 := by
       simp [passN, nF, eqB, h1, h2, hD1]
      rw [e0]
      simp [hD1]
     ·have e0 : passN nF (D, a) (b :: r) = passN nF (D - 1, 0) r + 1 := by
       have : 1 < D := by omega
       simp [passN, nF, eqB, h1, h2, this]
      have h5 : (D - 1 == 0) = false := by simpa using hD1
      rw [e0, h5, cond_false]
      exact two (D - 1) (by omega)
   ·have e0 : passN nF (D, a) (b :: r) = passN nF (D + 1, 0) r + 1 := by
     simp [passN, nF, eqB, h1]
    simp only [cond_true]
    rw [e0]
    exact two (D + 1) (by omega)
theorem dn_note (r : List UInt8) : dn 0 (40 :: 42 :: r) = bif (noteN (40 :: 42 :: r)).1 == 2 then some (noteN (40 :: 42 :: r)).2 else none := by
 have e0 : passN nF (0, 0) (40 :: 42 :: r) = passN nF (1, 0) r + 2 := by simp [passN, nF, eqB]
 have e1 : dn 0 (40 :: 42 :: r) = (dn 1 r).map (· + 2) := by simp [dn]
 unfold noteN
 simp only [e0, e1, List.length_cons]
 cases r with
 | nil => rfl
 | cons c r =>
  have e2 : passN nF (1, 0) (c :: r) = passN nF (1, c) r + 1 := by simp [passN, nF, eqB]
  rw [dn_pass r.length r 1 c (Nat.le_refl _) (by omega), e2]
  simp only [List.length_cons]
  generalize passN nF (1, c) r = p
  by_cases hp : p = r.length
  ·subst hp; simp
  ·have h1 : (p == r.length) = false := by simpa using hp
   have h2 : (p + 1 + 2 == r.length + 1 + 1 + 1) = false := by simp; omega
   rw [h1, h2]
   simp

/-- The end of a text, as the document finds it. -/
def escB (d : UInt8) : Bool := ((d.toNat : Int) == 34) || ((d.toNat : Int) == 92) || ((d.toNat : Int) == 110) || ((d.toNat : Int) == 116)
def dt : List UInt8 → Option Nat
 | [] => none
 | c :: r => bif ((c.toNat : Int) == 34) then some 1 else bif ((c.toNat : Int) == 10) then none
  else bif ((c.toNat : Int) == 92) then (match r with | [] => none | d :: r' => bif escB d then (dt r').map (· + 2) else none)
  else (dt r).map (· + 1)
theorem dt_pass : ∀ (n : Nat) (r : List UInt8), r.length ≤ n → dt r = bif headB (r.drop (passN qF false r)) 34 then some (passN qF false r + 1) else none := by
 intro n
 induction n with
 | zero =>
  intro r hn
  have : r = [] := List.length_eq_zero_iff.1 (by omega)
  subst this
  rfl
 | succ n ih =>
  intro r hn
  cases r with
  | nil => rfl
  | cons c r =>
   simp only [List.length_cons] at hn
   rw [dt.eq_def]
   simp only
   cases h1 : ((c.toNat : Int) == 34)
   ·cases h2 : ((c.toNat : Int) == 10)
    ·cases h3 : ((c.toNat : Int) == 92)
     ·have e0 : passN qF false (c :: r) = passN qF false r + 1 := by simp [passN, qF, eqB, h1, h2, h3]
      rw [e0, ih r (by omega)]
      simp only [cond_false, List.drop_succ_cons]
      cases headB (r.drop (passN qF false r)) 34 <;> rfl
     ·cases r with
      | nil =>
       have e0 : passN qF false [c] = 1 := by simp [passN, qF, eqB, h1, h2, h3]
       rw [e0]; rfl
      | cons d r =>
       simp only [cond_true, cond_false]
       cases h4 : escB d
       ·have e0 : passN qF false (c :: d :: r) = 1 := by
         unfold escB at h4
         simp only [Bool.or_eq_false_iff] at h4
         simp [passN, qF, eqB, h1, h2, h3, h4]
        rw [e0]
        unfold escB at h4
        simp only [Bool.or_eq_false_iff] at h4
        simp [headB, eqB, h4]
       ·have e0 : passN qF false (c :: d :: r) = passN qF false r + 2 := by
         unfold escB at h4
         simp [passN, qF, eqB, h1, h2, h3, h4]
        rw [e0, ih r (by simp at hn; omega)]
        simp only [cond_true, List.drop_succ_cons]
        cases headB (r.drop (passN qF false r)) 34 <;> rfl
    ·have e0 : passN qF false (c :: r) = 0 := by simp [passN, qF, eqB, h1, h2]
     rw [e0]
     simp [headB, eqB, h1]
   ·have e0 : passN qF false (c :: r) = 0 := by simp [passN, qF, eqB, h1]
    rw [e0]
    simp [headB, eqB, h1]
def dtR (s : ByteArray) (k : Nat) : Int := match dt (s.data.toList.drop k) with | some m => ((k + m : Nat) : Int) | none => 0
theorem dtR_end (s : ByteArray) (k : Nat) (h : s.size ≤ k) : dtR s k = 0 := by
 unfold dtR
 rw [List.drop_eq_nil_of_le (by rw [data_len]; exact h)]; rfl
theorem dtR_at (s : ByteArray) (k : Nat) (h : k < s.size) : dtR s k = bif ((s[k].toNat : Int) == 34) then ((k + 1 : Nat) : Int) else bif ((s[k].toNat : Int) == 10) then 0 else bif ((s[k].toNat : Int) == 92) then (if h' : k + 1 < s.size then bif escB s[k + 1] then dtR s (k + 2) else 0 else 0) else dtR s (k + 1) := by
 conv => lhs; unfold dtR
 rw [drop_at s k h, dt.eq_def]
 simp only
 cases h1 : ((s[k].toNat : Int) == 34)
 ·cases h2 : ((s[k].toNat : Int) == 10)
  ·cases h3 : ((s[k].toNat : Int) == 92)
   ·simp only [cond_false]
    unfold dtR
    cases dt (s.data.toList.drop (k + 1)) with
    | none => rfl
    | some m => show ((k + (m + 1) : Nat) : Int) = ((k + 1 + m : Nat) : Int); omega
   ·simp only [cond_false, cond_true]
    by_cases h' : k + 1 < s.size
    ·rw [dif_pos h', drop_at s (k + 1) h']
     simp only
     cases escB s[k + 1]
     ·rfl
     ·simp only [cond_true]
      unfold dtR
      cases dt (s.data.toList.drop (k + 1 + 1)) with
      | none => rfl
      | some m => show ((k + (m + 2) : Nat) : Int) = ((k + 2 + m : Nat) : Int); omega
    ·rw [dif_neg h', List.drop_eq_nil_of_le (by rw [data_len]; omega)]
  ·rfl
 ·rfl

set_option maxHeartbeats 2000000 in
theorem dtext_any (s : ByteArray) (hs : s.size ≤ 1000000) (a : Nat) (ha : a < s.size) (w : World) : Calls Tryz.prog 63 #[.string s, .int .i64 (a : Int)] w fun e w' => e = .returned (.int .i64 (dtR s (a + 1))) ∧ w = w' := by
 obtain ⟨R, hR⟩ : ∃ R, R = dtR s (a + 1) := ⟨_, rfl⟩
 rw [← hR]
 have HR := Lib.hid hR
 clear hR
 go_enter Tryz.func63, Tryz.ntmps63
 go_wp2
 go_loop [5] (fun i => ∃ (k : Nat), k ≤ s.size + 1 ∧ i = .int .i64 k ∧ Hid (R = dtR s k)) (fun i => s.size + 1 - (intOf i).toNat)
 case atStart => exact ⟨a + 1, by omega, by first | rfl | go_num, HR⟩
 case round =>
  obtain ⟨k, hk, rfl, hq⟩ := hrel
  clear HR
  by_cases hlt : k < s.size
  ·have q := dtR_at s k hlt
   have hm : s.size + 1 - (intOf (.int .i64 ((k : Int) + 1))).toNat < s.size + 1 - (intOf (.int .i64 (k : Int))).toNat := by simp [intOf]; omega
   have HM := Lib.hid hm
   clear hm
   cases h1 : ((s[k].toNat : Int) == 34)
   case true =>
    have HN := Lib.hid (hq.out.trans (q.trans (by rw [h1, cond_true])))
    clear q hq
    go_wp2
    go_ret
    exact ⟨ret_int HN.out.symm, rfl⟩
   case false =>
    cases h2 : ((s[k].toNat : Int) == 10)
    case true =>
     have HN : Hid (R = 0) := Lib.hid (hq.out.trans (q.trans (by rw [h1, h2]; rfl)))
     clear q hq
     go_wp2
     go_ret
     exact ⟨ret_int HN.out.symm, rfl⟩
    case false =>
     cases h3 : ((s[k].toNat : Int) == 92)
     case false =>
      have HN : Hid (R = dtR s (k + 1)) := Lib.hid (hq.out.trans (q.trans (by rw [h1, h2, h3]; rfl)))
      clear q hq
      go_wp2
      go_round
      case rel => exact ⟨k + 1, by omega, by first | rfl | go_num, HN⟩
      case measure => exact HM.out
     case true =>
      obtain ⟨j, hj⟩ : ∃ j : Nat, (k : Int) + 1 = (j : Int) := ⟨k + 1, by omega⟩
      have hjk : j = k + 1 := by omega
      by_cases hjlt : j < s.size
      ·have ej : ∀ h, s[k + 1]'h = s[j] := fun h => by simp [hjk]
       have q' : R = bif escB s[j] then dtR s (k + 2) else 0 := hq.out.trans (q.trans (by rw [h1, h2, h3]; simp only [cond_true, cond_false]; rw [dif_pos (by omega), ej]))
       have hE : escB s[j] = (((s[j].toNat : Int) == 34) || ((s[j].toNat : Int) == 92) || ((s[j].toNat : Int) == 110) || ((s[j].toNat : Int) == 116)) := rfl
       have hnj : ¬ (s.size : Int) ≤ (j : Int) := by omega
       have HJ := Lib.hid hjk
       have hX : (j : Int) + 1 = ((k + 2 : Nat) : Int) := by omega
       have HX := Lib.hid hX
       have hm2 : s.size + 1 - (intOf (.int .i64 ((k + 2 : Nat) : Int))).toNat < s.size + 1 - (intOf (.int .i64 (k : Int))).toNat := by simp [intOf]; omega
       have HM2 := Lib.hid hm2
       clear hjk hX hm2 q hq ej
       cases g1 : ((s[j].toNat : Int) == 34)
       case true =>
        have m1 : ((s[j].toNat : Int) != 34) = false := by simp [bne, g1]
        have hE' : escB s[j] = true := by rw [hE, g1]; simp
        rw [hE'] at q'
        have HN : Hid (R = dtR s (k + 2)) := Lib.hid q'
        clear q' hE hE'
        go_wp2
        go_round
        case rel => exact ⟨k + 2, by have := HJ.out; omega, by rw [HX.out], HN⟩
        case measure => rw [HX.out]; exact HM2.out
       case false =>
        cases g2 : ((s[j].toNat : Int) == 92)
        case true =>
         have m1 : ((s[j].toNat : Int) != 34) = true := by simp [bne, g1]
         have m2 : ((s[j].toNat : Int) != 92) = false := by simp [bne, g2]
         have hE' : escB s[j] = true := by rw [hE, g1, g2]; simp
         rw [hE'] at q'
         have HN : Hid (R = dtR s (k + 2)) := Lib.hid q'
         clear q' hE hE'
         go_wp2
         go_round
         case rel => exact ⟨k + 2, by have := HJ.out; omega, by rw [HX.out], HN⟩
         case measure => rw [HX.out]; exact HM2.out
        case false =>
         cases g3 : ((s[j].toNat : Int) == 110)
         case true =>
          have m1 : ((s[j].toNat : Int) != 34) = true := by simp [bne, g1]
          have m2 : ((s[j].toNat : Int) != 92) = true := by simp [bne, g2]
          have m3 : ((s[j].toNat : Int) != 110) = false := by simp [bne, g3]
          have hE' : escB s[j] = true := by rw [hE, g1, g2, g3]; simp
          rw [hE'] at q'
          have HN : Hid (R = dtR s (k + 2)) := Lib.hid q'
          clear q' hE hE'
          go_wp2
          go_round
          case rel => exact ⟨k + 2, by have := HJ.out; omega, by rw [HX.out], HN⟩
          case measure => rw [HX.out]; exact HM2.out
         case false =>
          cases g4 : ((s[j].toNat : Int) == 116)
          case true =>
           have m1 : ((s[j].toNat : Int) != 34) = true := by simp [bne, g1]
           have m2 : ((s[j].toNat : Int) != 92) = true := by simp [bne, g2]
           have m3 : ((s[j].toNat : Int) != 110) = true := by simp [bne, g3]
           have m4 : ((s[j].toNat : Int) != 116) = false := by simp [bne, g4]
           have hE' : escB s[j] = true := by rw [hE, g1, g2, g3, g4]; simp
           rw [hE'] at q'
           have HN : Hid (R = dtR s (k + 2)) := Lib.hid q'
           clear q' hE hE'
           go_wp2
           go_round
           case rel => exact ⟨k + 2, by have := HJ.out; omega, by rw [HX.out], HN⟩
           case measure => rw [HX.out]; exact HM2.out
          case false =>
           have m1 : ((s[j].toNat : Int) != 34) = true := by simp [bne, g1]
           have m2 : ((s[j].toNat : Int) != 92) = true := by simp [bne, g2]
           have m3 : ((s[j].toNat : Int) != 110) = true := by simp [bne, g3]
           have m4 : ((s[j].toNat : Int) != 116) = true := by simp [bne, g4]
           have hE' : escB s[j] = false := by rw [hE, g1, g2, g3, g4]; simp
           rw [hE'] at q'
           have HN : Hid (R = 0) := Lib.hid q'
           clear q' hE hE'
           go_wp2
           go_ret
           exact ⟨ret_int HN.out.symm, rfl⟩
      ·have HN : Hid (R = 0) := Lib.hid (hq.out.trans (q.trans (by rw [h1, h2, h3]; simp only [cond_true, cond_false]; rw [dif_neg (by omega)])))
       have hnj : (s.size : Int) ≤ (j : Int) := by omega
       clear q hq hjk
       go_wp2
       go_ret
       exact ⟨ret_int HN.out.symm, rfl⟩
  ·have HN := Lib.hid (hq.out.trans (dtR_end s k (by omega)))
   have hge : ¬ (k : Int) < (s.size : Int) := by omega
   clear hq
   go_wp2
   go_ret
   exact ⟨ret_int HN.out.symm, rfl⟩
end Go.Proofs.YtkjgkchdkeggoaaGreatDoor

namespace Go.Proofs.YtkjgkchdkeggoaaGreatDoor
open Go.RowKit
set_option maxRecDepth 20000
set_option linter.unusedVariables false
set_option linter.unusedSimpArgs false

theorem pass_at' (g : UInt8 → Bool) (s : ByteArray) (k : Nat) (h : k < s.size) (hg : g s[k] = true) : passN (pureF g) () (s.data.toList.drop k) = 1 + passN (pureF g) () (s.data.toList.drop (k + 1)) := by
 rw [drop_at s k h]
 simp only [passN, pureF, hg, cond_true]
 have e : passN (fun (x : Unit) d => ((), g d)) () (s.data.toList.drop (k + 1)) = passN (pureF g) () (s.data.toList.drop (k + 1)) := rfl
 omega
theorem pass_no' (g : UInt8 → Bool) (s : ByteArray) (k : Nat) (h : k < s.size) (hg : g s[k] = false) : passN (pureF g) () (s.data.toList.drop k) = 0 := by
 rw [drop_at s k h]
 simp [passN, pureF, hg]
theorem pass_end' (g : UInt8 → Bool) (s : ByteArray) (k : Nat) (h : s.size ≤ k) : passN (pureF g) () (s.data.toList.drop k) = 0 := by
 rw [List.drop_eq_nil_of_le (by rw [data_len]; exact h)]; rfl
/-- A box of a token. -/
structure Box3 (W : World) (b : Nat) (x y z : Int) : Prop where
 cells : W.heap[b]? = some (.cells #[.int .i64 x, .int .i64 y, .int .i64 z] 39 (0, 0))
section
variable {W W' : World} {b : Nat} {x y z : Int}
theorem Box3.c0 (h : Box3 W b x y z) : W.cell? ⟨b, 0, none⟩ = some (.int .i64 x) := Lib.cell_of_heap h.cells 0
theorem Box3.c1 (h : Box3 W b x y z) : W.cell? ⟨b, 1, none⟩ = some (.int .i64 y) := Lib.cell_of_heap h.cells 1
theorem Box3.c2 (h : Box3 W b x y z) : W.cell? ⟨b, 2, none⟩ = some (.int .i64 z) := Lib.cell_of_heap h.cells 2
theorem Box3.f (h : Box3 W b x y z) (i : Nat) : W.frozen? ⟨b, i, none⟩ = false := cells_frozen h.cells i
theorem Box3.lt (h : Box3 W b x y z) : b < W.heap.size := (Array.getElem?_eq_some_iff.1 h.cells).1
theorem Box3.step (h : Box3 W b x y z) (hb : Below W.heap.size W W') : Box3 W' b x y z := ⟨(hb.block _ h.lt).trans h.cells⟩
theorem Box3.keep (h : Box3 W b x y z) {g : Nat} (hg : W.grownBy W' (some g)) (hn : b ≠ g) : Box3 W' b x y z := ⟨(hg.block _ h.lt (fun e => hn (Option.some.inj e))).trans h.cells⟩
theorem Box3.set0 (h : Box3 W b x y z) (x' : Int) : Box3 (W.setCell ⟨b, 0, none⟩ (.int .i64 x')) b x' y z := ⟨by rw [heap_setCell_same W b 0 _ _ _ h.cells]; rfl⟩
theorem Box3.set1 (h : Box3 W b x y z) (x' : Int) : Box3 (W.setCell ⟨b, 1, none⟩ (.int .i64 x')) b x x' z := ⟨by rw [heap_setCell_same W b 1 _ _ _ h.cells]; rfl⟩
theorem Box3.set2 (h : Box3 W b x y z) (x' : Int) : Box3 (W.setCell ⟨b, 2, none⟩ (.int .i64 x')) b x y x' := ⟨by rw [heap_setCell_same W b 2 _ _ _ h.cells]; rfl⟩
theorem Box3.set (h : Box3 W b x y z) (x' y' z' : Int) : Box3 (((W.setCell ⟨b, 0, none⟩ (.int .i64 x')).setCell ⟨b, 1, none⟩ (.int .i64 y')).setCell ⟨b, 2, none⟩ (.int .i64 z')) b x' y' z' := ((h.set0 x').set1 y').set2 z'
end
/-- What is kept while a token is made: its box, the result's box. -/
structure Nx (w : World) (k : Int) (a E : Nat) (W : World) : Prop where
 own : Box3 W (w.heap.size + 1) k a E
 res : Box3 W w.heap.size 0 0 0
 below : Below w.heap.size w W
section
variable {w W W' : World} {k : Int} {a E : Nat}
theorem Nx.step (h : Nx w k a E W) (hb : Below W.heap.size W W') : Nx w k a E W' := ⟨h.own.step hb, h.res.step hb, h.below.trans (hb.mono h.below.size)⟩
theorem Nx.setE (h : Nx w k a E W) (E' : Nat) : Nx w k a E' (W.setCell ⟨w.heap.size + 1, 2, none⟩ (.int .i64 (E' : Int))) :=
 ⟨h.own.set2 _, h.res.keep (grown_set _ _ _) (by omega), h.below.grown (grown_set _ _ _) h.below.size (fun q hq => by have := Option.some.inj hq; omega)⟩
theorem Nx.setK (h : Nx w k a E W) (k' : Int) : Nx w k' a E (W.setCell ⟨w.heap.size + 1, 0, none⟩ (.int .i64 k')) :=
 ⟨h.own.set0 _, h.res.keep (grown_set _ _ _) (by omega), h.below.grown (grown_set _ _ _) h.below.size (fun q hq => by have := Option.some.inj hq; omega)⟩
theorem nx_new (w : World) (k : Int) (a E : Nat) : Nx w k a E ((w.alloc (.cells #[.int .i64 0, .int .i64 0, .int .i64 0] 39)).alloc (.cells #[.int .i64 k, .int .i64 (a : Int), .int .i64 (E : Int)] 39)) := by
 have h1 := heap_alloc_new w (.cells #[.int .i64 0, .int .i64 0, .int .i64 0] 39)
 have b1 : Below w.heap.size w (w.alloc (.cells #[.int .i64 0, .int .i64 0, .int .i64 0] 39)) := (Below.refl _ _).alloc (Nat.le_refl _) _
 generalize hA : w.alloc (.cells #[.int .i64 0, .int .i64 0, .int .i64 0] 39) = A at *
 have hz : A.heap.size = w.heap.size + 1 := by rw [← hA]; simp
 have h2 := heap_alloc_new A (.cells #[.int .i64 k, .int .i64 (a : Int), .int .i64 (E : Int)] 39)
 have b2 : Below A.heap.size A (A.alloc (.cells #[.int .i64 k, .int .i64 (a : Int), .int .i64 (E : Int)] 39)) := (Below.refl _ _).alloc (Nat.le_refl _) _
 rw [hz] at h2
 exact ⟨⟨h2⟩, ⟨(b2.block _ (by omega)).trans h1⟩, b1.trans (b2.mono b1.size)⟩
end
theorem kind_digit (s : ByteArray) (h : 0 < s.size) (hd : digB s[0] = true) : kindN s = 0 := by
 have hb : begN s = 0 := by
  rw [beg_eq s h]
  have h1 : lowB s[0] = false := by unfold digB at hd; unfold lowB; simp at hd ⊢; omega
  have h2 : capB s[0] = false := by unfold digB at hd; unfold capB; simp at hd ⊢; omega
  have h3 : signB s[0] = false := rest_sign _ (by unfold restB; simp [hd])
  have h4 : ((s[0].toNat : Int) == 39) = false := by unfold digB at hd; simp at hd ⊢; omega
  rw [h1, h2, h3, h4]; rfl
 have hm : mkB s = false := by
  cases e : mkB s
  ·rfl
  ·exfalso
   rw [mk_iff] at e
   have hx : s.toList = s[0] :: s.data.toList.drop 1 := by rw [Lib.toList_data]; exact data_cons s h
   rw [hx] at e
   have h0 : ∀ n : UInt8, n.toNat < 48 ∨ 57 < n.toNat → s[0] ≠ n := fun n hn e => by
    subst e
    unfold digB at hd; simp at hd; omega
   have z1 := h0 40 (by decide); have z2 := h0 41 (by decide); have z3 := h0 44 (by decide); have z4 := h0 46 (by decide)
   have z5 := h0 59 (by decide); have z6 := h0 95 (by decide); have z7 := h0 61 (by decide); have z8 := h0 124 (by decide)
   have z9 := h0 58 (by decide); have z10 := h0 45 (by decide)
   simp [z1, z2, z3, z4, z5, z6, z7, z8, z9, z10] at e
 unfold kindN
 rw [hm, hb]; rfl
/-- All of these bytes are digits. -/
def dgB (s : ByteArray) (a E : Nat) : Bool := ((s.data.toList.drop a).take (E - a)).all digB
theorem dgB_one (s : ByteArray) (a : Nat) (h : a < s.size) : dgB s a (a + 1) = digB s[a] := by
 unfold dgB
 rw [drop_at s a h, show a + 1 - a = 1 by omega]; simp
theorem dgB_more (s : ByteArray) (a E : Nat) (h : E < s.size) (ha : a ≤ E) : dgB s a (E + 1) = (dgB s a E && digB s[E]) := by
 unfold dgB
 have hl : E - a < (s.data.toList.drop a).length := by rw [List.length_drop, data_len]; omega
 rw [show E + 1 - a = (E - a) + 1 by omega, List.take_succ_eq_append_getElem hl, List.all_append]
 have : (s.data.toList.drop a)[E - a]'hl = s[E] := by
  rw [List.getElem_drop]
  have := data_at s E h
  simp only [show a + (E - a) = E by omega, this]
 rw [this]; simp
theorem pass_all (l : List UInt8) : (passN (pureF digB) () l == l.length) = l.all digB := by
 induction l with
 | nil => rfl
 | cons c r ih =>
  simp only [passN, pureF, List.length_cons, List.all_cons]
  cases digB c
  ·simp
  ·simp only [cond_true, Bool.true_and, ← ih]
   rw [Bool.eq_iff_iff]; simp [pureF]
/-- What a token of rests, signs or another byte is. -/
def kdN (s : ByteArray) (a E : Nat) : Int := bif dgB s a E then 4 else bif kindN (s.extract a E) == 0 then 3 else kindN (s.extract a E)
theorem kdN_plain (s : ByteArray) (a n : Nat) (h : a + n ≤ s.size) (hn : 0 < n) : plainN (s.extract a (a + n)).data.toList = kdN s a (a + n) := by
 have hx : (s.extract a (a + n)).data.toList = (s.data.toList.drop a).take n := extract_drop s a n
 have hsz : 0 < (s.extract a (a + n)).size := by simp; omega
 have h0 : (s.extract a (a + n)).data.toList = (s.extract a (a + n))[0] :: (s.extract a (a + n)).data.toList.drop 1 := data_cons _ hsz
 have hb : bsOf (s.extract a (a + n)).data.toList = s.extract a (a + n) := by unfold bsOf; exact Lib.mk_data _
 have hd : dgB s a (a + n) = (s.extract a (a + n)).data.toList.all digB := by unfold dgB; rw [hx, show a + n - a = n by omega]
 have hk := kind_digit _ hsz
 unfold kdN
 rw [hd]
 unfold plainN
 rw [← pass_all]
 generalize hp : s.extract a (a + n) = p at *
 rw [h0]
 simp only
 rw [← h0, hb]
 cases e : digB p[0]
 ·have : (passN (pureF digB) () p.data.toList == p.data.toList.length) = false := by
   rw [pass_all, h0]; simp [e]
  rw [this]; simp
 ·rw [hk e]; simp
set_option maxHeartbeats 4000000 in
theorem dnext_blank (s : ByteArray) (hs : s.size ≤ 1000000) (a : Nat) (ha : a < s.size) (h1 : blankB s[a] = true) (w : World) :
  Calls Tryz.prog 40 #[.string s, .int .i64 a] w fun e w' => e = .returned (tokV a (tokN (s.data.toList.drop a))) ∧ Below w.heap.size w w' := by
 have hT := tokN_at s a ha
 rw [h1] at hT
 have hP := pass_at' blankB s a ha h1
 have HB := fun W => dblank_any s[a] W
 rw [h1] at HB
 obtain ⟨T, hTT⟩ : ∃ T : Nat, T = a + passN (pureF blankB) () (s.data.toList.drop a) := ⟨_, rfl⟩
 have hT2 : tokN (s.data.toList.drop a) = (1, T - a) := by rw [hT, hTT]; simp
 have H0 := Lib.hid (show T = a + 1 + passN (pureF blankB) () (s.data.toList.drop (a + 1)) by rw [hTT, hP]; omega)
 have HT := Lib.hid hT2
 clear h1 hT hP hTT hT2
 go_enter Tryz.func40, Tryz.ntmps40
 go_wp2_with fail
 refine (HB _).mono ?_
 rintro e w1 ⟨rfl, rfl⟩
 go_wp2_with fail
 have HN := Lib.hid (nx_new w 1 a (a + 1))
 rw [show ((a + 1 : Nat) : Int) = (a : Int) + 1 by omega] at HN
 generalize ((w.alloc (.cells #[.int .i64 0, .int .i64 0, .int .i64 0] 39)).alloc (.cells #[.int .i64 1, .int .i64 (a : Int), .int .i64 ((a : Int) + 1)] 39)) = W0 at *
 clear HB
 go_loopg [] (s.size + 1) (fun gk wr => ∃ E : Nat, E + gk = s.size + 1 + (a + 1) ∧ a < E ∧ E ≤ s.size ∧ Hid (T = E + passN (pureF blankB) () (s.data.toList.drop E)) ∧ Hid (Nx w 1 a E wr))
 case atStart => exact ⟨a + 1, by omega, by omega, by omega, H0, HN⟩
 case round =>
  obtain ⟨E, hg, haE, hE, hq, hn⟩ := hrel
  have c0 := hn.out.own.c0
  have c1 := hn.out.own.c1
  have c2 := hn.out.own.c2
  have f0 := hn.out.own.f 0
  have f2 := hn.out.own.f 2
  have r0 := hn.out.res.c0
  have r1 := hn.out.res.c1
  have r2 := hn.out.res.c2
  have g0 := hn.out.res.f 0
  have g1 := hn.out.res.f 1
  have g2 := hn.out.res.f 2
  clear H0 HN
  by_cases hlt : E < s.size
  ·have HC := fun W => dblank_any s[E] W
   cases h1 : blankB s[E]
   ·rw [h1] at HC
    have HE := Lib.hid (hq.out.trans (by rw [pass_no' blankB s E hlt h1]))
    clear hq h1
    go_wp2_with fail
    refine (HC _).mono ?_
    rintro e w1 ⟨rfl, rfl⟩
    go_wp2_with fail
    have HR2 := hn.out.res.set 1 (a : Int) (E : Int)
    have HB2 := Lib.hid (((hn.out.below.setCell (p := ⟨w.heap.size, 0, none⟩) (Nat.le_refl _) (.int .i64 1)).setCell (p := ⟨w.heap.size, 1, none⟩) (Nat.le_refl _) (.int .i64 (a : Int))).setCell (p := ⟨w.heap.size, 2, none⟩) (Nat.le_refl _) (.int .i64 (E : Int)))
    clear c0 c1 c2 f0 f2 r0 r1 r2 g0 g1 g2 hn
    generalize (((wr.setCell ⟨w.heap.size, 0, none⟩ (.int .i64 1)).setCell ⟨w.heap.size, 1, none⟩ (.int .i64 (a : Int))).setCell ⟨w.heap.size, 2, none⟩ (.int .i64 (E : Int))) = W2 at *
    have c0 := HR2.c0
    have c1 := HR2.c1
    have c2 := HR2.c2
    try simp only [Exit.inBlock, Exit.then]
    refine bodyPost_ret (by simp [results, Tryz.results40, go_sem, c0, c1, c2, Result.andThen]; try rfl) rfl ?_
    exact ⟨tok_ret (E := E) (by rw [HT.out, HE.out]; rfl) (by omega), HB2.out⟩
   ·rw [h1] at HC
    have HE := Lib.hid (hq.out.trans (show E + _ = E + 1 + passN (pureF blankB) () (s.data.toList.drop (E + 1)) by rw [pass_at' blankB s E hlt h1]; omega))
    have HX := Lib.hid (hn.out.setE (E + 1))
    have HI := Lib.hid (show ((E : Int) + 1) = ((E + 1 : Nat) : Int) by omega)
    clear hq h1
    go_wp2_with fail
    refine (HC _).mono ?_
    rintro e w1 ⟨rfl, rfl⟩
    go_wp2_with fail
    go_roundg (gk - 1)
    case rel => exact ⟨E + 1, by omega, by omega, by omega, HE, by rw [HI.out]; exact HX⟩
    case measure => omega
  ·have HE := Lib.hid (hq.out.trans (by rw [pass_end' blankB s E (by omega)]))
   have hge : ¬ (E : Int) < (s.size : Int) := by omega
   clear hq
   go_wp2_with fail
   have HR2 := hn.out.res.set 1 (a : Int) (E : Int)
   have HB2 := Lib.hid (((hn.out.below.setCell (p := ⟨w.heap.size, 0, none⟩) (Nat.le_refl _) (.int .i64 1)).setCell (p := ⟨w.heap.size, 1, none⟩) (Nat.le_refl _) (.int .i64 (a : Int))).setCell (p := ⟨w.heap.size, 2, none⟩) (Nat.le_refl _) (.int .i64 (E : Int)))
   clear c0 c1 c2 f0 f2 r0 r1 r2 g0 g1 g2 hn
   generalize (((wr.setCell ⟨w.heap.size, 0, none⟩ (.int .i64 1)).setCell ⟨w.heap.size, 1, none⟩ (.int .i64 (a : Int))).setCell ⟨w.heap.size, 2, none⟩ (.int .i64 (E : Int))) = W2 at *
   have c0 := HR2.c0
   have c1 := HR2.c1
   have c2 := HR2.c2
   try simp only [Exit.inBlock, Exit.then]
   refine bodyPost_ret (by simp [results, Tryz.results40, go_sem, c0, c1, c2, Result.andThen]; try rfl) rfl ?_
   exact ⟨tok_ret (E := E) (by rw [HT.out, HE.out]; rfl) (by omega), HB2.out⟩
theorem note_kind (l : List UInt8) : ((noteN l).1 = 2 ∨ (noteN l).1 = 3) ∧ ((noteN l).1 = 3 → (noteN l).2 = l.length) := by
 unfold noteN
 simp only
 cases e : (passN nF (0, 0) l == l.length)
 ·exact ⟨.inl rfl, fun h => by simp at h⟩
 ·exact ⟨.inr rfl, fun _ => by simpa using e⟩
theorem passN_line (r : List UInt8) : ∀ n, n ≤ passN qF false r → passN (pureF lineB) () r = n + passN (pureF lineB) () (r.drop n) := by
 have key : ∀ (l : List UInt8) (e : Bool) n, n ≤ passN qF e l → passN (pureF lineB) () l = n + passN (pureF lineB) () (l.drop n) := by
  intro l
  induction l with
  | nil => intro e n h; simp [passN] at h; subst h; simp
  | cons c l ih =>
   intro e n h
   cases n with
   | zero => simp
   | succ n =>
    simp only [passN] at h
    cases hq : (qF e c).2
    ·rw [hq] at h; simp at h
    ·rw [hq] at h
     simp only [cond_true] at h
     have hl : lineB c = true := by
      unfold lineB
      cases hc : eqB c 10
      ·rfl
      ·unfold qF at hq
       unfold eqB at *
       rw [beq_iff_eq.1 hc] at hq
       cases e <;> simp at hq
     have := ih (qF e c).1 n (by omega)
     simp only [passN, pureF, hl, cond_true, List.drop_succ_cons] at this ⊢
     have e2 : passN (fun (x : Unit) d => ((), lineB d)) () l = passN (pureF lineB) () l := rfl
     have e3 : passN (fun (x : Unit) d => ((), lineB d)) () (l.drop n) = passN (pureF lineB) () (l.drop n) := rfl
     omega
 exact key r false
theorem quote_bad (r : List UInt8) (h : (quoteN r).1 ≠ 5) : quoteN r = (3, 1 + passN (pureF lineB) () r) := by
 unfold quoteN at h ⊢
 simp only at h ⊢
 cases e : headB (r.drop (passN qF false r)) 34
 ·simp only [e, cond_false]
  have := passN_line r (passN qF false r) (Nat.le_refl _)
  rw [this, Prod.mk.injEq]
  exact ⟨rfl, by omega⟩
 ·rw [e] at h; exact absurd rfl h
set_option maxHeartbeats 4000000 in
theorem dnext_note (s : ByteArray) (hs : s.size ≤ 1000000) (a : Nat) (ha : a < s.size) (h1 : ((s[a].toNat : Int) == 40) = true) (h2 : a + 1 < s.size) (h3 : ((s[a + 1].toNat : Int) == 42) = true) (w : World) :
  Calls Tryz.prog 40 #[.string s, .int .i64 a] w fun e w' => e = .returned (tokV a (tokN (s.data.toList.drop a))) ∧ Below w.heap.size w w' := by
 have hb1 : blankB s[a] = false := by unfold blankB eqB; rw [beq_iff_eq.1 h1]; rfl
 have hd : s.data.toList.drop a = 40 :: 42 :: s.data.toList.drop (a + 2) := by
  rw [drop_two s a h2]
  have e1 : s[a] = 40 := eqB_eq (n := 40) h1
  have e2 : s[a + 1] = 42 := eqB_eq (n := 42) h3
  rw [e1, e2]
 have hT : tokN (s.data.toList.drop a) = noteN (s.data.toList.drop a) := by rw [hd]; rfl
 have hN : dnR s 0 a = bif (noteN (s.data.toList.drop a)).1 == 2 then ((a + (noteN (s.data.toList.drop a)).2 : Nat) : Int) else 0 := by
  unfold dnR
  rw [hd, dn_note]
  cases (noteN (40 :: 42 :: s.data.toList.drop (a + 2))).1 == 2 <;> rfl
 have hk := note_kind (s.data.toList.drop a)
 have hlen : (s.data.toList.drop a).length = s.size - a := by rw [List.length_drop, data_len]
 have hbo := noteN_bound (s.data.toList.drop a) (by omega)
 rw [hlen] at hk hbo
 have HB := fun W => dblank_any s[a] W
 rw [hb1] at HB
 have HD := fun W => dnote_any s hs a ha W
 have h2' : (a : Int) + 1 < (s.size : Int) := by omega
 obtain ⟨j, hj⟩ : ∃ j : Nat, (a : Int) + 1 = (j : Int) := ⟨a + 1, by omega⟩
 have hjk : j = a + 1 := by omega
 have hjlt : j < s.size := by omega
 have h3' : ((s[j].toNat : Int) == 42) = true := by
  have : ∀ h, s[a + 1]'h = s[j] := fun h => by simp [hjk]
  rw [← this]; exact h3
 generalize noteN (s.data.toList.drop a) = q at *
 obtain ⟨k, m⟩ := q
 simp only at hN hk hbo
 have HT := Lib.hid hT
 have HK := Lib.hid hk
 have HHB := Lib.hid hbo
 clear hd hT hb1 hjk h3 hk hlen h2
 by_cases hk2 : k = 2
 ·have hR : dnR s 0 a = ((a + m : Nat) : Int) := by rw [hN, hk2]; rfl
  obtain ⟨E, hE⟩ : ∃ E, E = a + m := ⟨_, rfl⟩
  rw [hR, ← hE] at HD
  have hE0 : (0 : Int) < (E : Int) := by omega
  have HE := Lib.hid hE
  have HK2 := Lib.hid hk2
  clear hN hR hk2 hE hbo
  go_enter Tryz.func40, Tryz.ntmps40
  go_wp2_with fail
  refine (HB _).mono ?_
  rintro e w1 ⟨rfl, rfl⟩
  go_wp2_with fail
  refine (HD _).mono ?_
  rintro e w1 ⟨rfl, rfl⟩
  go_wp2_with fail
  go_returns
  exact ⟨tok_ret (E := E) (by rw [HT.out, HK2.out, HE.out]; simp) (by rw [HE.out]; omega), by go_grown⟩
 ·have hR : dnR s 0 a = 0 := by
   rw [hN]
   have : (k == 2) = false := by simpa using hk2
   rw [this]; rfl
  rw [hR] at HD
  have HK3 := Lib.hid (show k = 3 ∧ m = s.size - a by
   have h3 : k = 3 := HK.out.1.resolve_left hk2
   exact ⟨h3, HK.out.2 h3⟩)
  clear hN hR hk2 hbo
  go_enter Tryz.func40, Tryz.ntmps40
  go_wp2_with fail
  refine (HB _).mono ?_
  rintro e w1 ⟨rfl, rfl⟩
  go_wp2_with fail
  refine (HD _).mono ?_
  rintro e w1 ⟨rfl, rfl⟩
  go_wp2_with fail
  go_returns
  exact ⟨tok_ret (E := s.size) (by rw [HT.out, HK3.out.1, HK3.out.2]) (by omega), by go_grown⟩
set_option maxHeartbeats 4000000 in
theorem dnext_text (s : ByteArray) (hs : s.size ≤ 1000000) (a : Nat) (ha : a < s.size) (h1 : ((s[a].toNat : Int) == 34) = true) (w : World) :
  Calls Tryz.prog 40 #[.string s, .int .i64 a] w fun e w' => e = .returned (tokV a (tokN (s.data.toList.drop a))) ∧ Below w.heap.size w w' := by
 have hb1 : blankB s[a] = false := by unfold blankB eqB; rw [beq_iff_eq.1 h1]; rfl
 have h40 : ((s[a].toNat : Int) == 40) = false := by rw [beq_iff_eq.1 h1]; rfl
 have hd : s.data.toList.drop a = 34 :: s.data.toList.drop (a + 1) := by
  rw [drop_at s a ha]
  have e1 : s[a] = 34 := eqB_eq (n := 34) h1
  rw [e1]
 have hT : tokN (s.data.toList.drop a) = quoteN (s.data.toList.drop (a + 1)) := by rw [hd]; rfl
 have hN : dtR s (a + 1) = bif (quoteN (s.data.toList.drop (a + 1))).1 == 5 then ((a + (quoteN (s.data.toList.drop (a + 1))).2 : Nat) : Int) else 0 := by
  unfold dtR
  rw [dt_pass _ _ (Nat.le_refl _)]
  unfold quoteN
  simp only
  cases headB ((s.data.toList.drop (a + 1)).drop (passN qF false (s.data.toList.drop (a + 1)))) 34
  ·rfl
  ·show ((a + 1 + (passN qF false (s.data.toList.drop (a + 1)) + 1) : Nat) : Int) = ((a + (passN qF false (s.data.toList.drop (a + 1)) + 2) : Nat) : Int)
   omega
 have hbo := quoteN_bound (s.data.toList.drop (a + 1))
 have HB := fun W => dblank_any s[a] W
 rw [hb1] at HB
 have HD := fun W => dtext_any s hs a ha W
 have HT := Lib.hid hT
 by_cases hk2 : (quoteN (s.data.toList.drop (a + 1))).1 = 5
 ·obtain ⟨m, hm⟩ : ∃ m, m = (quoteN (s.data.toList.drop (a + 1))).2 := ⟨_, rfl⟩
  have HQ : Hid (quoteN (s.data.toList.drop (a + 1)) = (5, m)) := Lib.hid (by rw [hm, ← hk2])
  have hR : dtR s (a + 1) = ((a + m : Nat) : Int) := by rw [hN, hk2, hm]; rfl
  obtain ⟨E, hE⟩ : ∃ E, E = a + m := ⟨_, rfl⟩
  rw [hR, ← hE] at HD
  rw [← hm] at hbo
  have hE0 : (0 : Int) < (E : Int) := by omega
  have HE := Lib.hid hE
  clear hN hR hk2 hE hbo hm hd hT hb1
  go_enter Tryz.func40, Tryz.ntmps40
  go_wp2_with fail
  refine (HB _).mono ?_
  rintro e w1 ⟨rfl, rfl⟩
  go_wp2_with fail
  refine (HD _).mono ?_
  rintro e w1 ⟨rfl, rfl⟩
  go_wp2_with fail
  go_returns
  exact ⟨tok_ret (E := E) (by rw [HT.out, HQ.out, HE.out]; simp) (by rw [HE.out]; omega), by go_grown⟩
 ·have hR : dtR s (a + 1) = 0 := by
   rw [hN]
   have : ((quoteN (s.data.toList.drop (a + 1))).1 == 5) = false := by simpa using hk2
   rw [this]; rfl
  rw [hR] at HD
  obtain ⟨T, hTT⟩ : ∃ T : Nat, T = a + 1 + passN (pureF lineB) () (s.data.toList.drop (a + 1)) := ⟨_, rfl⟩
  have HT2 : Hid (tokN (s.data.toList.drop a) = (3, T - a)) := Lib.hid (by rw [hT, quote_bad _ hk2, hTT, Prod.mk.injEq]; exact ⟨rfl, by omega⟩)
  have H0 := Lib.hid hTT
  clear hN hR hk2 hbo hd hT hb1 hTT HT
  go_enter Tryz.func40, Tryz.ntmps40
  go_wp2_with fail
  refine (HB _).mono ?_
  rintro e w1 ⟨rfl, rfl⟩
  go_wp2_with fail
  refine (HD _).mono ?_
  rintro e w1 ⟨rfl, rfl⟩
  go_wp2_with fail
  clear HB HD h1 h40
  have HN := Lib.hid (nx_new w 3 a (a + 1))
  rw [show ((a + 1 : Nat) : Int) = (a : Int) + 1 by omega] at HN
  generalize ((w.alloc (.cells #[.int .i64 0, .int .i64 0, .int .i64 0] 39)).alloc (.cells #[.int .i64 3, .int .i64 (a : Int), .int .i64 ((a : Int) + 1)] 39)) = W0 at *
  go_loopg [] (s.size + 1) (fun gk wr => ∃ E : Nat, E + gk = s.size + 1 + (a + 1) ∧ a < E ∧ E ≤ s.size ∧ Hid (T = E + passN (pureF lineB) () (s.data.toList.drop E)) ∧ Hid (Nx w 3 a E wr))
  case atStart => exact ⟨a + 1, by omega, by omega, by omega, H0, HN⟩
  case round =>
   obtain ⟨E, hg, haE, hE, hq, hn⟩ := hrel
   have c0 := hn.out.own.c0
   have c1 := hn.out.own.c1
   have c2 := hn.out.own.c2
   have f0 := hn.out.own.f 0
   have f2 := hn.out.own.f 2
   have r0 := hn.out.res.c0
   have r1 := hn.out.res.c1
   have r2 := hn.out.res.c2
   have g0 := hn.out.res.f 0
   have g1 := hn.out.res.f 1
   have g2 := hn.out.res.f 2
   clear H0 HN
   by_cases hlt : E < s.size
   ·cases h1 : ((s[E].toNat : Int) == 10)
    ·have hl : lineB s[E] = true := by unfold lineB eqB; rw [h1]; rfl
     have hne : ((s[E].toNat : Int) != 10) = true := by simp [bne, h1]
     have HE := Lib.hid (hq.out.trans (show E + _ = E + 1 + passN (pureF lineB) () (s.data.toList.drop (E + 1)) by rw [pass_at' lineB s E hlt hl]; omega))
     have HX := Lib.hid (hn.out.setE (E + 1))
     have HI := Lib.hid (show ((E : Int) + 1) = ((E + 1 : Nat) : Int) by omega)
     clear hq hl
     go_wp2_with fail
     go_roundg (gk - 1)
     case rel => exact ⟨E + 1, by omega, by omega, by omega, HE, by rw [HI.out]; exact HX⟩
     case measure => omega
    ·have hl : lineB s[E] = false := by unfold lineB eqB; rw [h1]; rfl
     have hne : ((s[E].toNat : Int) != 10) = false := by simp [bne, h1]
     have HE := Lib.hid (hq.out.trans (by rw [pass_no' lineB s E hlt hl]))
     clear hq hl
     go_wp2_with fail
     have HR2 := hn.out.res.set 3 (a : Int) (E : Int)
     have HB2 := Lib.hid (((hn.out.below.setCell (p := ⟨w.heap.size, 0, none⟩) (Nat.le_refl _) (.int .i64 3)).setCell (p := ⟨w.heap.size, 1, none⟩) (Nat.le_refl _) (.int .i64 (a : Int))).setCell (p := ⟨w.heap.size, 2, none⟩) (Nat.le_refl _) (.int .i64 (E : Int)))
     clear c0 c1 c2 f0 f2 r0 r1 r2 g0 g1 g2 hn
     generalize (((wr.setCell ⟨w.heap.size, 0, none⟩ (.int .i64 3)).setCell ⟨w.heap.size, 1, none⟩ (.int .i64 (a : Int))).setCell ⟨w.heap.size, 2, none⟩ (.int .i64 (E : Int))) = W2 at *
     have c0 := HR2.c0
     have c1 := HR2.c1
     have c2 := HR2.c2
     try simp only [Exit.inBlock, Exit.then]
     refine bodyPost_ret (by simp [results, Tryz.results40, go_sem, c0, c1, c2, Result.andThen]; try rfl) rfl ?_
     exact ⟨tok_ret (E := E) (by rw [HT2.out, HE.out]; rfl) (by omega), HB2.out⟩
   ·have HE := Lib.hid (hq.out.trans (by rw [pass_end' lineB s E (by omega)]))
    have hge : ¬ (E : Int) < (s.size : Int) := by omega
    clear hq
    go_wp2_with fail
    have HR2 := hn.out.res.set 3 (a : Int) (E : Int)
    have HB2 := Lib.hid (((hn.out.below.setCell (p := ⟨w.heap.size, 0, none⟩) (Nat.le_refl _) (.int .i64 3)).setCell (p := ⟨w.heap.size, 1, none⟩) (Nat.le_refl _) (.int .i64 (a : Int))).setCell (p := ⟨w.heap.size, 2, none⟩) (Nat.le_refl _) (.int .i64 (E : Int)))
    clear c0 c1 c2 f0 f2 r0 r1 r2 g0 g1 g2 hn
    generalize (((wr.setCell ⟨w.heap.size, 0, none⟩ (.int .i64 3)).setCell ⟨w.heap.size, 1, none⟩ (.int .i64 (a : Int))).setCell ⟨w.heap.size, 2, none⟩ (.int .i64 (E : Int))) = W2 at *
    have c0 := HR2.c0
    have c1 := HR2.c1
    have c2 := HR2.c2
    try simp only [Exit.inBlock, Exit.then]
    refine bodyPost_ret (by simp [results, Tryz.results40, go_sem, c0, c1, c2, Result.andThen]; try rfl) rfl ?_
    exact ⟨tok_ret (E := E) (by rw [HT2.out, HE.out]; rfl) (by omega), HB2.out⟩
theorem rest_not {c : UInt8} (h : restB c = true) : blankB c = false ∧ ((c.toNat : Int) == 34) = false ∧ ((c.toNat : Int) == 40) = false := by
 unfold restB lowB capB digB at h
 unfold blankB eqB
 simp at h ⊢
 omega
theorem sign_not {c : UInt8} (h : signB c = true) : blankB c = false ∧ ((c.toNat : Int) == 34) = false ∧ ((c.toNat : Int) == 40) = false ∧ restB c = false := by
 have hm : c ∈ signL := by unfold signB at h; simpa using h
 have key : ∀ c ∈ signL, blankB c = false ∧ ((c.toNat : Int) == 34) = false ∧ ((c.toNat : Int) == 40) = false ∧ restB c = false := by decide
 exact key c hm
theorem tok_rest (s : ByteArray) (a : Nat) (ha : a < s.size) (h : restB s[a] = true) : tokN (s.data.toList.drop a) = (kdN s a (a + passN (pureF restB) () (s.data.toList.drop a)), passN (pureF restB) () (s.data.toList.drop a)) := by
 obtain ⟨h1, h2, h3⟩ := rest_not h
 have hl := passN_le (pureF restB) () (s.data.toList.drop a)
 rw [List.length_drop, data_len] at hl
 have hp := pass_at' restB s a ha h
 rw [tokN_at s a ha, prefix_at s a ha, h1, h2, show eqB s[a] 40 = false from h3, h, ← kdN_plain s a _ (by omega) (by omega)]
 rfl
theorem tok_sign (s : ByteArray) (a : Nat) (ha : a < s.size) (h : signB s[a] = true) : tokN (s.data.toList.drop a) = (kdN s a (a + passN (pureF signB) () (s.data.toList.drop a)), passN (pureF signB) () (s.data.toList.drop a)) := by
 obtain ⟨h1, h2, h3, h4⟩ := sign_not h
 have hl := passN_le (pureF signB) () (s.data.toList.drop a)
 rw [List.length_drop, data_len] at hl
 have hp := pass_at' signB s a ha h
 rw [tokN_at s a ha, prefix_at s a ha, h1, h2, show eqB s[a] 40 = false from h3, h4, h, ← kdN_plain s a _ (by omega) (by omega)]
 rfl
theorem tok_else (s : ByteArray) (a : Nat) (ha : a < s.size) (h1 : blankB s[a] = false) (h2 : ((s[a].toNat : Int) == 34) = false) (h3 : (eqB s[a] 40 && headB (s.data.toList.drop (a + 1)) 42) = false) (h4 : restB s[a] = false) (h5 : signB s[a] = false) : tokN (s.data.toList.drop a) = (kdN s a (a + 1), 1) := by
 rw [tokN_at s a ha, prefix_at s a ha, h1, h2, h3, h4, h5, ← kdN_plain s a 1 (by omega) (by omega)]
 rfl
theorem dgB_no (s : ByteArray) (a E : Nat) (ha : a < E) (hE : E ≤ s.size) (h : digB (s[a]'(by omega)) = false) : dgB s a E = false := by
 unfold dgB
 rw [drop_at s a (by omega), show E - a = (E - a - 1) + 1 by omega]
 simp [h]
theorem slice_to (s : ByteArray) (a E : Nat) (h1 : a ≤ E) (h2 : E ≤ s.size) (w : World) : Sem.run Tryz.prog (Instr.slice 9 (.string s) (some (.int .i64 a)) (some (.int .i64 E)) none) w = .ok (.string (s.extract a E)) w := by
 have := slice_at s a (E - a) (by omega) w
 rw [show (a : Int) + ((E - a : Nat) : Int) = (E : Int) by omega, show a + (E - a) = E by omega] at this
 exact this
theorem kdN_zero {s : ByteArray} {a E : Nat} (hd : dgB s a E = false) (hk : kindN (s.extract a E) = 0) : kdN s a E = 3 := by unfold kdN; rw [hd, hk]; rfl
theorem kdN_some {s : ByteArray} {a E : Nat} (hd : dgB s a E = false) (hk : kindN (s.extract a E) ≠ 0) : kdN s a E = kindN (s.extract a E) := by
 unfold kdN; rw [hd, show (kindN (s.extract a E) == 0) = false by simpa using hk]; rfl
theorem kdN_dig {s : ByteArray} {a E : Nat} (hd : dgB s a E = true) : kdN s a E = 4 := by unfold kdN; rw [hd]; rfl
set_option maxHeartbeats 4000000 in
theorem dnext_sign (s : ByteArray) (hs : s.size ≤ 1000000) (a : Nat) (ha : a < s.size) (h1 : signB s[a] = true) (w : World) :
  Calls Tryz.prog 40 #[.string s, .int .i64 a] w fun e w' => e = .returned (tokV a (tokN (s.data.toList.drop a))) ∧ Below w.heap.size w w' := by
 obtain ⟨q1, q2, q3, q4⟩ := sign_not h1
 have hd0 : digB s[a] = false := by
  unfold restB at q4
  simp only [Bool.or_eq_false_iff] at q4
  exact q4.1.1.2
 obtain ⟨T, hTT⟩ : ∃ T : Nat, T = a + passN (pureF signB) () (s.data.toList.drop a) := ⟨_, rfl⟩
 have hT2 : tokN (s.data.toList.drop a) = (kdN s a T, T - a) := by rw [tok_sign s a ha h1, ← hTT, Prod.mk.injEq]; exact ⟨rfl, by omega⟩
 have H0 := Lib.hid (show T = a + 1 + passN (pureF signB) () (s.data.toList.drop (a + 1)) by rw [hTT, pass_at' signB s a ha h1]; omega)
 have HT := Lib.hid hT2
 have HB := fun W => dblank_any s[a] W
 rw [q1] at HB
 have HR := fun W => refRest_any s[a] W
 rw [q4] at HR
 have HS := fun W => signs_any s[a] W
 rw [h1] at HS
 have HDG := Lib.hid (fun E (h : a < E) (h2 : E ≤ s.size) => dgB_no s a E h h2 hd0)
 clear h1 hTT hT2 q1 q4 hd0
 go_enter Tryz.func40, Tryz.ntmps40
 go_wp2_with fail
 refine (HB _).mono ?_
 rintro e w1 ⟨rfl, rfl⟩
 go_wp2_with fail
 refine (HR _).mono ?_
 rintro e w1 ⟨rfl, rfl⟩
 go_wp2_with fail
 refine (HS _).mono ?_
 rintro e w1 ⟨rfl, rfl⟩
 go_wp2_with fail
 have HN := Lib.hid (nx_new w 3 a (a + 1))
 rw [show ((a + 1 : Nat) : Int) = (a : Int) + 1 by omega] at HN
 generalize ((w.alloc (.cells #[.int .i64 0, .int .i64 0, .int .i64 0] 39)).alloc (.cells #[.int .i64 3, .int .i64 (a : Int), .int .i64 ((a : Int) + 1)] 39)) = W0 at *
 clear HB HR HS
 go_loopg [] (s.size + 1) (fun gk wr => ∃ E : Nat, E + gk = s.size + 1 + (a + 1) ∧ a < E ∧ E ≤ s.size ∧ Hid (T = E + passN (pureF signB) () (s.data.toList.drop E)) ∧ Hid (Nx w 3 a E wr))
 case atStart => exact ⟨a + 1, by omega, by omega, by omega, H0, HN⟩
 case round =>
  obtain ⟨E, hg, haE, hE, hq, hn⟩ := hrel
  have c0 := hn.out.own.c0
  have c1 := hn.out.own.c1
  have c2 := hn.out.own.c2
  have f0 := hn.out.own.f 0
  have f2 := hn.out.own.f 2
  have r0 := hn.out.res.c0
  have r1 := hn.out.res.c1
  have r2 := hn.out.res.c2
  have g0 := hn.out.res.f 0
  have g1 := hn.out.res.f 1
  have g2 := hn.out.res.f 2
  clear H0 HN
  by_cases hlt : E < s.size
  ·have HC := fun W => signs_any s[E] W
   cases h1 : signB s[E]
   ·rw [h1] at HC
    have HE := Lib.hid (hq.out.trans (by rw [pass_no' signB s E hlt h1]))
    have HTK : Hid (tokN (s.data.toList.drop a) = (kdN s a E, E - a)) := Lib.hid (by rw [HT.out, HE.out]; rfl)
    clear hq h1
    go_wp2_with fail
    refine (HC _).mono ?_
    rintro e w1 ⟨rfl, rfl⟩
    have hsl := slice_to s a E (by omega) (by omega)
    have HKD := fun W => refKind_any (s.extract a E) W (by simp; omega)
    have HD0 := Lib.hid (HDG.out E haE hE)
    obtain ⟨kk, hkk⟩ : ∃ kk, kk = kindN (s.extract a E) := ⟨_, rfl⟩
    rw [← hkk] at HKD
    have HKK := Lib.hid hkk
    clear hkk
    generalize hex : s.extract a E = ex at *
    have HEX := Lib.hid hex
    clear hex
    go_wp2_with fail
    refine (HKD _).mono ?_
    rintro e w5 ⟨rfl, hb5⟩
    have HN5 := Lib.hid (hn.out.step hb5)
    clear hb5 c0 c1 c2 f0 f2 r0 r1 r2 g0 g1 g2 hn
    have c0 := HN5.out.own.c0
    have c1 := HN5.out.own.c1
    have c2 := HN5.out.own.c2
    have f0 := HN5.out.own.f 0
    have f2 := HN5.out.own.f 2
    have r0 := HN5.out.res.c0
    have r1 := HN5.out.res.c1
    have r2 := HN5.out.res.c2
    have g0 := HN5.out.res.f 0
    have g1 := HN5.out.res.f 1
    have g2 := HN5.out.res.f 2
    by_cases hkz : kk = 0
    ·subst hkz
     go_wp2_with fail
     have HR2 := HN5.out.res.set 3 (a : Int) (E : Int)
     have HB2 := Lib.hid (((HN5.out.below.setCell (p := ⟨w.heap.size, 0, none⟩) (Nat.le_refl _) (.int .i64 3)).setCell (p := ⟨w.heap.size, 1, none⟩) (Nat.le_refl _) (.int .i64 (a : Int))).setCell (p := ⟨w.heap.size, 2, none⟩) (Nat.le_refl _) (.int .i64 (E : Int)))
     clear c0 c1 c2 f0 f2 r0 r1 r2 g0 g1 g2 HN5
     generalize (((w5.setCell ⟨w.heap.size, 0, none⟩ (.int .i64 3)).setCell ⟨w.heap.size, 1, none⟩ (.int .i64 (a : Int))).setCell ⟨w.heap.size, 2, none⟩ (.int .i64 (E : Int))) = W2 at *
     have c0 := HR2.c0
     have c1 := HR2.c1
     have c2 := HR2.c2
     try simp only [Exit.inBlock, Exit.then]
     refine bodyPost_ret (by simp [results, Tryz.results40, go_sem, c0, c1, c2, Result.andThen]; try rfl) rfl ?_
     exact ⟨tok_ret (E := E) (by rw [HTK.out, kdN_zero HD0.out (by rw [HEX.out, ← HKK.out])]) (by omega), HB2.out⟩
    ·have hne : (kk != 0) = true := by simpa using hkz
     have HNK := Lib.hid (HN5.out.setK kk)
     go_wp2_with fail
     generalize w5.setCell ⟨w.heap.size + 1, 0, none⟩ (.int .i64 kk) = w6 at *
     clear c0 c1 c2 f0 f2 r0 r1 r2 g0 g1 g2 HN5
     have c0 := HNK.out.own.c0
     have c1 := HNK.out.own.c1
     have c2 := HNK.out.own.c2
     have f0 := HNK.out.own.f 0
     have f2 := HNK.out.own.f 2
     have r0 := HNK.out.res.c0
     have r1 := HNK.out.res.c1
     have r2 := HNK.out.res.c2
     have g0 := HNK.out.res.f 0
     have g1 := HNK.out.res.f 1
     have g2 := HNK.out.res.f 2
     have HR2 := HNK.out.res.set kk (a : Int) (E : Int)
     have HB2 := Lib.hid (((HNK.out.below.setCell (p := ⟨w.heap.size, 0, none⟩) (Nat.le_refl _) (.int .i64 kk)).setCell (p := ⟨w.heap.size, 1, none⟩) (Nat.le_refl _) (.int .i64 (a : Int))).setCell (p := ⟨w.heap.size, 2, none⟩) (Nat.le_refl _) (.int .i64 (E : Int)))
     clear c0 c1 c2 f0 f2 r0 r1 r2 g0 g1 g2 HNK
     generalize (((w6.setCell ⟨w.heap.size, 0, none⟩ (.int .i64 kk)).setCell ⟨w.heap.size, 1, none⟩ (.int .i64 (a : Int))).setCell ⟨w.heap.size, 2, none⟩ (.int .i64 (E : Int))) = W2 at *
     have c0 := HR2.c0
     have c1 := HR2.c1
     have c2 := HR2.c2
     try simp only [Exit.inBlock, Exit.then]
     refine bodyPost_ret (by simp [results, Tryz.results40, go_sem, c0, c1, c2, Result.andThen]; try rfl) rfl ?_
     exact ⟨tok_ret (E := E) (by rw [HTK.out, kdN_some HD0.out (by rw [HEX.out, ← HKK.out]; exact hkz), HEX.out, ← HKK.out]) (by omega), HB2.out⟩
   ·rw [h1] at HC
    have HE := Lib.hid (hq.out.trans (show E + _ = E + 1 + passN (pureF signB) () (s.data.toList.drop (E + 1)) by rw [pass_at' signB s E hlt h1]; omega))
    have HX := Lib.hid (hn.out.setE (E + 1))
    have HI := Lib.hid (show ((E : Int) + 1) = ((E + 1 : Nat) : Int) by omega)
    clear hq h1
    go_wp2_with fail
    refine (HC _).mono ?_
    rintro e w1 ⟨rfl, rfl⟩
    go_wp2_with fail
    go_roundg (gk - 1)
    case rel => exact ⟨E + 1, by omega, by omega, by omega, HE, by rw [HI.out]; exact HX⟩
    case measure => omega
  ·have HE := Lib.hid (hq.out.trans (by rw [pass_end' signB s E (by omega)]))
   have hge : ¬ (E : Int) < (s.size : Int) := by omega
   have HTK : Hid (tokN (s.data.toList.drop a) = (kdN s a E, E - a)) := Lib.hid (by rw [HT.out, HE.out]; rfl)
   clear hq
   have hsl := slice_to s a E (by omega) (by omega)
   have HKD := fun W => refKind_any (s.extract a E) W (by simp; omega)
   have HD0 := Lib.hid (HDG.out E haE hE)
   obtain ⟨kk, hkk⟩ : ∃ kk, kk = kindN (s.extract a E) := ⟨_, rfl⟩
   rw [← hkk] at HKD
   have HKK := Lib.hid hkk
   clear hkk
   generalize hex : s.extract a E = ex at *
   have HEX := Lib.hid hex
   clear hex
   go_wp2_with fail
   refine (HKD _).mono ?_
   rintro e w5 ⟨rfl, hb5⟩
   have HN5 := Lib.hid (hn.out.step hb5)
   clear hb5 c0 c1 c2 f0 f2 r0 r1 r2 g0 g1 g2 hn
   have c0 := HN5.out.own.c0
   have c1 := HN5.out.own.c1
   have c2 := HN5.out.own.c2
   have f0 := HN5.out.own.f 0
   have f2 := HN5.out.own.f 2
   have r0 := HN5.out.res.c0
   have r1 := HN5.out.res.c1
   have r2 := HN5.out.res.c2
   have g0 := HN5.out.res.f 0
   have g1 := HN5.out.res.f 1
   have g2 := HN5.out.res.f 2
   by_cases hkz : kk = 0
   ·subst hkz
    go_wp2_with fail
    have HR2 := HN5.out.res.set 3 (a : Int) (E : Int)
    have HB2 := Lib.hid (((HN5.out.below.setCell (p := ⟨w.heap.size, 0, none⟩) (Nat.le_refl _) (.int .i64 3)).setCell (p := ⟨w.heap.size, 1, none⟩) (Nat.le_refl _) (.int .i64 (a : Int))).setCell (p := ⟨w.heap.size, 2, none⟩) (Nat.le_refl _) (.int .i64 (E : Int)))
    clear c0 c1 c2 f0 f2 r0 r1 r2 g0 g1 g2 HN5
    generalize (((w5.setCell ⟨w.heap.size, 0, none⟩ (.int .i64 3)).setCell ⟨w.heap.size, 1, none⟩ (.int .i64 (a : Int))).setCell ⟨w.heap.size, 2, none⟩ (.int .i64 (E : Int))) = W2 at *
    have c0 := HR2.c0
    have c1 := HR2.c1
    have c2 := HR2.c2
    try simp only [Exit.inBlock, Exit.then]
    refine bodyPost_ret (by simp [results, Tryz.results40, go_sem, c0, c1, c2, Result.andThen]; try rfl) rfl ?_
    exact ⟨tok_ret (E := E) (by rw [HTK.out, kdN_zero HD0.out (by rw [HEX.out, ← HKK.out])]) (by omega), HB2.out⟩
   ·have hne : (kk != 0) = true := by simpa using hkz
    have HNK := Lib.hid (HN5.out.setK kk)
    go_wp2_with fail
    generalize w5.setCell ⟨w.heap.size + 1, 0, none⟩ (.int .i64 kk) = w6 at *
    clear c0 c1 c2 f0 f2 r0 r1 r2 g0 g1 g2 HN5
    have c0 := HNK.out.own.c0
    have c1 := HNK.out.own.c1
    have c2 := HNK.out.own.c2
    have f0 := HNK.out.own.f 0
    have f2 := HNK.out.own.f 2
    have r0 := HNK.out.res.c0
    have r1 := HNK.out.res.c1
    have r2 := HNK.out.res.c2
    have g0 := HNK.out.res.f 0
    have g1 := HNK.out.res.f 1
    have g2 := HNK.out.res.f 2
    have HR2 := HNK.out.res.set kk (a : Int) (E : Int)
    have HB2 := Lib.hid (((HNK.out.below.setCell (p := ⟨w.heap.size, 0, none⟩) (Nat.le_refl _) (.int .i64 kk)).setCell (p := ⟨w.heap.size, 1, none⟩) (Nat.le_refl _) (.int .i64 (a : Int))).setCell (p := ⟨w.heap.size, 2, none⟩) (Nat.le_refl _) (.int .i64 (E : Int)))
    clear c0 c1 c2 f0 f2 r0 r1 r2 g0 g1 g2 HNK
    generalize (((w6.setCell ⟨w.heap.size, 0, none⟩ (.int .i64 kk)).setCell ⟨w.heap.size, 1, none⟩ (.int .i64 (a : Int))).setCell ⟨w.heap.size, 2, none⟩ (.int .i64 (E : Int))) = W2 at *
    have c0 := HR2.c0
    have c1 := HR2.c1
    have c2 := HR2.c2
    try simp only [Exit.inBlock, Exit.then]
    refine bodyPost_ret (by simp [results, Tryz.results40, go_sem, c0, c1, c2, Result.andThen]; try rfl) rfl ?_
    exact ⟨tok_ret (E := E) (by rw [HTK.out, kdN_some HD0.out (by rw [HEX.out, ← HKK.out]; exact hkz), HEX.out, ← HKK.out]) (by omega), HB2.out⟩
set_option maxHeartbeats 4000000 in
theorem dnext_rest (s : ByteArray) (hs : s.size ≤ 1000000) (a : Nat) (ha : a < s.size) (h1 : restB s[a] = true) (w : World) :
  Calls Tryz.prog 40 #[.string s, .int .i64 a] w fun e w' => e = .returned (tokV a (tokN (s.data.toList.drop a))) ∧ Below w.heap.size w w' := by
 obtain ⟨q1, q2, q3⟩ := rest_not h1
 obtain ⟨T, hTT⟩ : ∃ T : Nat, T = a + passN (pureF restB) () (s.data.toList.drop a) := ⟨_, rfl⟩
 have hT2 : tokN (s.data.toList.drop a) = (kdN s a T, T - a) := by rw [tok_rest s a ha h1, ← hTT, Prod.mk.injEq]; exact ⟨rfl, by omega⟩
 have H0 := Lib.hid (show T = a + 1 + passN (pureF restB) () (s.data.toList.drop (a + 1)) by rw [hTT, pass_at' restB s a ha h1]; omega)
 have HT := Lib.hid hT2
 have HB := fun W => dblank_any s[a] W
 rw [q1] at HB
 have HR := fun W => refRest_any s[a] W
 rw [h1] at HR
 have HD := fun W => ddigit_any s[a] W
 rw [← dgB_one s a ha] at HD
 clear h1 hTT hT2 q1
 go_enter Tryz.func40, Tryz.ntmps40
 go_wp2_with fail
 refine (HB _).mono ?_
 rintro e w1 ⟨rfl, rfl⟩
 go_wp2_with fail
 refine (HR _).mono ?_
 rintro e w1 ⟨rfl, rfl⟩
 go_wp2_with fail
 refine (HD _).mono ?_
 rintro e w1 ⟨rfl, rfl⟩
 go_wp2_with fail
 have HN := Lib.hid (nx_new w 3 a (a + 1))
 rw [show ((a + 1 : Nat) : Int) = (a : Int) + 1 by omega] at HN
 generalize ((w.alloc (.cells #[.int .i64 0, .int .i64 0, .int .i64 0] 39)).alloc (.cells #[.int .i64 3, .int .i64 (a : Int), .int .i64 ((a : Int) + 1)] 39)) = W0 at *
 clear HB HR HD
 go_loopg [9] (s.size + 1) (fun gk v9 wr => ∃ E : Nat, E + gk = s.size + 1 + (a + 1) ∧ a < E ∧ E ≤ s.size ∧ v9 = .bool (dgB s a E) ∧ Hid (T = E + passN (pureF restB) () (s.data.toList.drop E)) ∧ Hid (Nx w 3 a E wr))
 case atStart => exact ⟨a + 1, by omega, by omega, by omega, rfl, H0, HN⟩
 case round =>
  obtain ⟨E, hg, haE, hE, rfl, hq, hn⟩ := hrel
  have c0 := hn.out.own.c0
  have c1 := hn.out.own.c1
  have c2 := hn.out.own.c2
  have f0 := hn.out.own.f 0
  have f2 := hn.out.own.f 2
  have r0 := hn.out.res.c0
  have r1 := hn.out.res.c1
  have r2 := hn.out.res.c2
  have g0 := hn.out.res.f 0
  have g1 := hn.out.res.f 1
  have g2 := hn.out.res.f 2
  clear H0 HN
  by_cases hlt : E < s.size
  ·have HC := fun W => refRest_any s[E] W
   have HM := dgB_more s a E hlt (by omega)
   cases h1 : restB s[E]
   ·rw [h1] at HC
    have HE := Lib.hid (hq.out.trans (by rw [pass_no' restB s E hlt h1]))
    have HTK : Hid (tokN (s.data.toList.drop a) = (kdN s a E, E - a)) := Lib.hid (by rw [HT.out, HE.out]; rfl)
    clear hq h1 HM
    cases hbb : dgB s a E
    ·have HBB := Lib.hid hbb
     clear hbb
     go_wp2_with fail
     refine (HC _).mono ?_
     rintro e w1 ⟨rfl, rfl⟩
     have hsl := slice_to s a E (by omega) (by omega)
     have HKD := fun W => refKind_any (s.extract a E) W (by simp; omega)
     have HD0 := HBB
     obtain ⟨kk, hkk⟩ : ∃ kk, kk = kindN (s.extract a E) := ⟨_, rfl⟩
     rw [← hkk] at HKD
     have HKK := Lib.hid hkk
     clear hkk
     generalize hex : s.extract a E = ex at *
     have HEX := Lib.hid hex
     clear hex
     go_wp2_with fail
     refine (HKD _).mono ?_
     rintro e w5 ⟨rfl, hb5⟩
     have HN5 := Lib.hid (hn.out.step hb5)
     clear hb5 c0 c1 c2 f0 f2 r0 r1 r2 g0 g1 g2 hn
     have c0 := HN5.out.own.c0
     have c1 := HN5.out.own.c1
     have c2 := HN5.out.own.c2
     have f0 := HN5.out.own.f 0
     have f2 := HN5.out.own.f 2
     have r0 := HN5.out.res.c0
     have r1 := HN5.out.res.c1
     have r2 := HN5.out.res.c2
     have g0 := HN5.out.res.f 0
     have g1 := HN5.out.res.f 1
     have g2 := HN5.out.res.f 2
     by_cases hkz : kk = 0
     ·subst hkz
      go_wp2_with fail
      have HR2 := HN5.out.res.set 3 (a : Int) (E : Int)
      have HB2 := Lib.hid (((HN5.out.below.setCell (p := ⟨w.heap.size, 0, none⟩) (Nat.le_refl _) (.int .i64 3)).setCell (p := ⟨w.heap.size, 1, none⟩) (Nat.le_refl _) (.int .i64 (a : Int))).setCell (p := ⟨w.heap.size, 2, none⟩) (Nat.le_refl _) (.int .i64 (E : Int)))
      clear c0 c1 c2 f0 f2 r0 r1 r2 g0 g1 g2 HN5
      generalize (((w5.setCell ⟨w.heap.size, 0, none⟩ (.int .i64 3)).setCell ⟨w.heap.size, 1, none⟩ (.int .i64 (a : Int))).setCell ⟨w.heap.size, 2, none⟩ (.int .i64 (E : Int))) = W2 at *
      have c0 := HR2.c0
      have c1 := HR2.c1
      have c2 := HR2.c2
      try simp only [Exit.inBlock, Exit.then]
      refine bodyPost_ret (by simp [results, Tryz.results40, go_sem, c0, c1, c2, Result.andThen]; try rfl) rfl ?_
      exact ⟨tok_ret (E := E) (by rw [HTK.out, kdN_zero HD0.out (by rw [HEX.out, ← HKK.out])]) (by omega), HB2.out⟩
     ·have hne : (kk != 0) = true := by simpa using hkz
      have HNK := Lib.hid (HN5.out.setK kk)
      go_wp2_with fail
      generalize w5.setCell ⟨w.heap.size + 1, 0, none⟩ (.int .i64 kk) = w6 at *
      clear c0 c1 c2 f0 f2 r0 r1 r2 g0 g1 g2 HN5
      have c0 := HNK.out.own.c0
      have c1 := HNK.out.own.c1
      have c2 := HNK.out.own.c2
      have f0 := HNK.out.own.f 0
      have f2 := HNK.out.own.f 2
      have r0 := HNK.out.res.c0
      have r1 := HNK.out.res.c1
      have r2 := HNK.out.res.c2
      have g0 := HNK.out.res.f 0
      have g1 := HNK.out.res.f 1
      have g2 := HNK.out.res.f 2
      have HR2 := HNK.out.res.set kk (a : Int) (E : Int)
      have HB2 := Lib.hid (((HNK.out.below.setCell (p := ⟨w.heap.size, 0, none⟩) (Nat.le_refl _) (.int .i64 kk)).setCell (p := ⟨w.heap.size, 1, none⟩) (Nat.le_refl _) (.int .i64 (a : Int))).setCell (p := ⟨w.heap.size, 2, none⟩) (Nat.le_refl _) (.int .i64 (E : Int)))
      clear c0 c1 c2 f0 f2 r0 r1 r2 g0 g1 g2 HNK
      generalize (((w6.setCell ⟨w.heap.size, 0, none⟩ (.int .i64 kk)).setCell ⟨w.heap.size, 1, none⟩ (.int .i64 (a : Int))).setCell ⟨w.heap.size, 2, none⟩ (.int .i64 (E : Int))) = W2 at *
      have c0 := HR2.c0
      have c1 := HR2.c1
      have c2 := HR2.c2
      try simp only [Exit.inBlock, Exit.then]
      refine bodyPost_ret (by simp [results, Tryz.results40, go_sem, c0, c1, c2, Result.andThen]; try rfl) rfl ?_
      exact ⟨tok_ret (E := E) (by rw [HTK.out, kdN_some HD0.out (by rw [HEX.out, ← HKK.out]; exact hkz), HEX.out, ← HKK.out]) (by omega), HB2.out⟩
    ·have HBB := Lib.hid hbb
     clear hbb
     go_wp2_with fail
     refine (HC _).mono ?_
     rintro e w1 ⟨rfl, rfl⟩
     have HNK := Lib.hid (hn.out.setK 4)
     go_wp2_with fail
     generalize wr.setCell ⟨w.heap.size + 1, 0, none⟩ (.int .i64 4) = w6 at *
     clear c0 c1 c2 f0 f2 r0 r1 r2 g0 g1 g2 hn
     have c0 := HNK.out.own.c0
     have c1 := HNK.out.own.c1
     have c2 := HNK.out.own.c2
     have f0 := HNK.out.own.f 0
     have f2 := HNK.out.own.f 2
     have r0 := HNK.out.res.c0
     have r1 := HNK.out.res.c1
     have r2 := HNK.out.res.c2
     have g0 := HNK.out.res.f 0
     have g1 := HNK.out.res.f 1
     have g2 := HNK.out.res.f 2
     have HR2 := HNK.out.res.set 4 (a : Int) (E : Int)
     have HB2 := Lib.hid (((HNK.out.below.setCell (p := ⟨w.heap.size, 0, none⟩) (Nat.le_refl _) (.int .i64 4)).setCell (p := ⟨w.heap.size, 1, none⟩) (Nat.le_refl _) (.int .i64 (a : Int))).setCell (p := ⟨w.heap.size, 2, none⟩) (Nat.le_refl _) (.int .i64 (E : Int)))
     clear c0 c1 c2 f0 f2 r0 r1 r2 g0 g1 g2 HNK
     generalize (((w6.setCell ⟨w.heap.size, 0, none⟩ (.int .i64 4)).setCell ⟨w.heap.size, 1, none⟩ (.int .i64 (a : Int))).setCell ⟨w.heap.size, 2, none⟩ (.int .i64 (E : Int))) = W2 at *
     have c0 := HR2.c0
     have c1 := HR2.c1
     have c2 := HR2.c2
     try simp only [Exit.inBlock, Exit.then]
     refine bodyPost_ret (by simp [results, Tryz.results40, go_sem, c0, c1, c2, Result.andThen]; try rfl) rfl ?_
     exact ⟨tok_ret (E := E) (by rw [HTK.out, kdN_dig HBB.out]) (by omega), HB2.out⟩
   ·rw [h1] at HC
    have HE := Lib.hid (hq.out.trans (show E + _ = E + 1 + passN (pureF restB) () (s.data.toList.drop (E + 1)) by rw [pass_at' restB s E hlt h1]; omega))
    have HX := Lib.hid (hn.out.setE (E + 1))
    have HI := Lib.hid (show ((E : Int) + 1) = ((E + 1 : Nat) : Int) by omega)
    clear hq h1
    cases hbb : dgB s a E
    ·rw [hbb, Bool.false_and] at HM
     have HMM := Lib.hid HM
     clear hbb HM
     go_wp2_with fail
     refine (HC _).mono ?_
     rintro e w1 ⟨rfl, rfl⟩
     go_wp2_with fail
     go_roundg (gk - 1)
     case rel => exact ⟨E + 1, by omega, by omega, by omega, by rw [HMM.out], HE, by rw [HI.out]; exact HX⟩
     case measure => omega
    ·rw [hbb, Bool.true_and] at HM
     have HMM := Lib.hid HM
     have HDE := fun W => ddigit_any s[E] W
     clear hbb HM
     go_wp2_with fail
     refine (HC _).mono ?_
     rintro e w1 ⟨rfl, rfl⟩
     go_wp2_with fail
     refine (HDE _).mono ?_
     rintro e w1 ⟨rfl, rfl⟩
     go_wp2_with fail
     go_roundg (gk - 1)
     case rel => exact ⟨E + 1, by omega, by omega, by omega, by rw [HMM.out], HE, by rw [HI.out]; exact HX⟩
     case measure => omega
  ·have HE := Lib.hid (hq.out.trans (by rw [pass_end' restB s E (by omega)]))
   have hge : ¬ (E : Int) < (s.size : Int) := by omega
   have HTK : Hid (tokN (s.data.toList.drop a) = (kdN s a E, E - a)) := Lib.hid (by rw [HT.out, HE.out]; rfl)
   clear hq
   cases hbb : dgB s a E
   ·have HBB := Lib.hid hbb
    clear hbb
    have hsl := slice_to s a E (by omega) (by omega)
    have HKD := fun W => refKind_any (s.extract a E) W (by simp; omega)
    have HD0 := HBB
    obtain ⟨kk, hkk⟩ : ∃ kk, kk = kindN (s.extract a E) := ⟨_, rfl⟩
    rw [← hkk] at HKD
    have HKK := Lib.hid hkk
    clear hkk
    generalize hex : s.extract a E = ex at *
    have HEX := Lib.hid hex
    clear hex
    go_wp2_with fail
    refine (HKD _).mono ?_
    rintro e w5 ⟨rfl, hb5⟩
    have HN5 := Lib.hid (hn.out.step hb5)
    clear hb5 c0 c1 c2 f0 f2 r0 r1 r2 g0 g1 g2 hn
    have c0 := HN5.out.own.c0
    have c1 := HN5.out.own.c1
    have c2 := HN5.out.own.c2
    have f0 := HN5.out.own.f 0
    have f2 := HN5.out.own.f 2
    have r0 := HN5.out.res.c0
    have r1 := HN5.out.res.c1
    have r2 := HN5.out.res.c2
    have g0 := HN5.out.res.f 0
    have g1 := HN5.out.res.f 1
    have g2 := HN5.out.res.f 2
    by_cases hkz : kk = 0
    ·subst hkz
     go_wp2_with fail
     have HR2 := HN5.out.res.set 3 (a : Int) (E : Int)
     have HB2 := Lib.hid (((HN5.out.below.setCell (p := ⟨w.heap.size, 0, none⟩) (Nat.le_refl _) (.int .i64 3)).setCell (p := ⟨w.heap.size, 1, none⟩) (Nat.le_refl _) (.int .i64 (a : Int))).setCell (p := ⟨w.heap.size, 2, none⟩) (Nat.le_refl _) (.int .i64 (E : Int)))
     clear c0 c1 c2 f0 f2 r0 r1 r2 g0 g1 g2 HN5
     generalize (((w5.setCell ⟨w.heap.size, 0, none⟩ (.int .i64 3)).setCell ⟨w.heap.size, 1, none⟩ (.int .i64 (a : Int))).setCell ⟨w.heap.size, 2, none⟩ (.int .i64 (E : Int))) = W2 at *
     have c0 := HR2.c0
     have c1 := HR2.c1
     have c2 := HR2.c2
     try simp only [Exit.inBlock, Exit.then]
     refine bodyPost_ret (by simp [results, Tryz.results40, go_sem, c0, c1, c2, Result.andThen]; try rfl) rfl ?_
     exact ⟨tok_ret (E := E) (by rw [HTK.out, kdN_zero HD0.out (by rw [HEX.out, ← HKK.out])]) (by omega), HB2.out⟩
    ·have hne : (kk != 0) = true := by simpa using hkz
     have HNK := Lib.hid (HN5.out.setK kk)
     go_wp2_with fail
     generalize w5.setCell ⟨w.heap.size + 1, 0, none⟩ (.int .i64 kk) = w6 at *
     clear c0 c1 c2 f0 f2 r0 r1 r2 g0 g1 g2 HN5
     have c0 := HNK.out.own.c0
     have c1 := HNK.out.own.c1
     have c2 := HNK.out.own.c2
     have f0 := HNK.out.own.f 0
     have f2 := HNK.out.own.f 2
     have r0 := HNK.out.res.c0
     have r1 := HNK.out.res.c1
     have r2 := HNK.out.res.c2
     have g0 := HNK.out.res.f 0
     have g1 := HNK.out.res.f 1
     have g2 := HNK.out.res.f 2
     have HR2 := HNK.out.res.set kk (a : Int) (E : Int)
     have HB2 := Lib.hid (((HNK.out.below.setCell (p := ⟨w.heap.size, 0, none⟩) (Nat.le_refl _) (.int .i64 kk)).setCell (p := ⟨w.heap.size, 1, none⟩) (Nat.le_refl _) (.int .i64 (a : Int))).setCell (p := ⟨w.heap.size, 2, none⟩) (Nat.le_refl _) (.int .i64 (E : Int)))
     clear c0 c1 c2 f0 f2 r0 r1 r2 g0 g1 g2 HNK
     generalize (((w6.setCell ⟨w.heap.size, 0, none⟩ (.int .i64 kk)).setCell ⟨w.heap.size, 1, none⟩ (.int .i64 (a : Int))).setCell ⟨w.heap.size, 2, none⟩ (.int .i64 (E : Int))) = W2 at *
     have c0 := HR2.c0
     have c1 := HR2.c1
     have c2 := HR2.c2
     try simp only [Exit.inBlock, Exit.then]
     refine bodyPost_ret (by simp [results, Tryz.results40, go_sem, c0, c1, c2, Result.andThen]; try rfl) rfl ?_
     exact ⟨tok_ret (E := E) (by rw [HTK.out, kdN_some HD0.out (by rw [HEX.out, ← HKK.out]; exact hkz), HEX.out, ← HKK.out]) (by omega), HB2.out⟩
   ·have HBB := Lib.hid hbb
    clear hbb
    go_wp2_with fail
    have HNK := Lib.hid (hn.out.setK 4)
    go_wp2_with fail
    generalize wr.setCell ⟨w.heap.size + 1, 0, none⟩ (.int .i64 4) = w6 at *
    clear c0 c1 c2 f0 f2 r0 r1 r2 g0 g1 g2 hn
    have c0 := HNK.out.own.c0
    have c1 := HNK.out.own.c1
    have c2 := HNK.out.own.c2
    have f0 := HNK.out.own.f 0
    have f2 := HNK.out.own.f 2
    have r0 := HNK.out.res.c0
    have r1 := HNK.out.res.c1
    have r2 := HNK.out.res.c2
    have g0 := HNK.out.res.f 0
    have g1 := HNK.out.res.f 1
    have g2 := HNK.out.res.f 2
    have HR2 := HNK.out.res.set 4 (a : Int) (E : Int)
    have HB2 := Lib.hid (((HNK.out.below.setCell (p := ⟨w.heap.size, 0, none⟩) (Nat.le_refl _) (.int .i64 4)).setCell (p := ⟨w.heap.size, 1, none⟩) (Nat.le_refl _) (.int .i64 (a : Int))).setCell (p := ⟨w.heap.size, 2, none⟩) (Nat.le_refl _) (.int .i64 (E : Int)))
    clear c0 c1 c2 f0 f2 r0 r1 r2 g0 g1 g2 HNK
    generalize (((w6.setCell ⟨w.heap.size, 0, none⟩ (.int .i64 4)).setCell ⟨w.heap.size, 1, none⟩ (.int .i64 (a : Int))).setCell ⟨w.heap.size, 2, none⟩ (.int .i64 (E : Int))) = W2 at *
    have c0 := HR2.c0
    have c1 := HR2.c1
    have c2 := HR2.c2
    try simp only [Exit.inBlock, Exit.then]
    refine bodyPost_ret (by simp [results, Tryz.results40, go_sem, c0, c1, c2, Result.andThen]; try rfl) rfl ?_
    exact ⟨tok_ret (E := E) (by rw [HTK.out, kdN_dig HBB.out]) (by omega), HB2.out⟩
set_option maxHeartbeats 4000000 in
theorem dnext_else1 (s : ByteArray) (hs : s.size ≤ 1000000) (a : Nat) (ha : a < s.size) (h1 : blankB s[a] = false) (h2 : ((s[a].toNat : Int) == 34) = false) (h4 : restB s[a] = false) (h5 : signB s[a] = false) (h6 : ((s[a].toNat : Int) == 40) = false) (w : World) :
  Calls Tryz.prog 40 #[.string s, .int .i64 a] w fun e w' => e = .returned (tokV a (tokN (s.data.toList.drop a))) ∧ Below w.heap.size w w' := by
 have hd0 : digB s[a] = false := by
  have q4 := h4
  unfold restB at q4
  simp only [Bool.or_eq_false_iff] at q4
  exact q4.1.1.2
 have hT := tok_else s a ha h1 h2 (by rw [show eqB s[a] 40 = false from h6]; rfl) h4 h5
 have HDG := Lib.hid (dgB_no s a (a + 1) (by omega) (by omega) hd0)
 have HB := fun W => dblank_any s[a] W
 rw [h1] at HB
 have HR := fun W => refRest_any s[a] W
 rw [h4] at HR
 have HS := fun W => signs_any s[a] W
 rw [h5] at HS
 have HT := Lib.hid hT
 obtain ⟨E, hE⟩ : ∃ E : Nat, E = a + 1 := ⟨_, rfl⟩
 rw [← hE] at HDG
 have hEs : E ≤ s.size := by omega
 have haE : a < E := by omega
 have HTK : Hid (tokN (s.data.toList.drop a) = (kdN s a E, E - a)) := Lib.hid (by rw [HT.out, hE]; simp)
 have HN := Lib.hid (nx_new w 3 a E)
 have hEi : (a : Int) + 1 = (E : Int) := by omega
 have HEH := Lib.hid hE
 clear h1 h4 h5 hT hd0 hE HT
 have hsl := slice_to s a E (by omega) hEs
 have HKD := fun W => refKind_any (s.extract a E) W (by simp; omega)
 obtain ⟨kk, hkk⟩ : ∃ kk, kk = kindN (s.extract a E) := ⟨_, rfl⟩
 rw [← hkk] at HKD
 have HKK := Lib.hid hkk
 clear hkk
 generalize hex : s.extract a E = ex at *
 have HEX := Lib.hid hex
 clear hex
 go_enter Tryz.func40, Tryz.ntmps40
 go_wp2_with fail
 refine (HB _).mono ?_
 rintro e w1 ⟨rfl, rfl⟩
 go_wp2_with fail
 refine (HR _).mono ?_
 rintro e w1 ⟨rfl, rfl⟩
 go_wp2_with fail
 refine (HS _).mono ?_
 rintro e w1 ⟨rfl, rfl⟩
 go_wp2_with fail
 refine (HKD _).mono ?_
 rintro e w5 ⟨rfl, hb5⟩
 generalize ((w.alloc (.cells #[.int .i64 0, .int .i64 0, .int .i64 0] 39)).alloc (.cells #[.int .i64 3, .int .i64 (a : Int), .int .i64 (E : Int)] 39)) = W0 at *
 have HN5 := Lib.hid (HN.out.step hb5)
 clear hb5 HN
 have c0 := HN5.out.own.c0
 have c1 := HN5.out.own.c1
 have c2 := HN5.out.own.c2
 have f0 := HN5.out.own.f 0
 have f2 := HN5.out.own.f 2
 have r0 := HN5.out.res.c0
 have r1 := HN5.out.res.c1
 have r2 := HN5.out.res.c2
 have g0 := HN5.out.res.f 0
 have g1 := HN5.out.res.f 1
 have g2 := HN5.out.res.f 2
 by_cases hkz : kk = 0
 ·subst hkz
  go_wp2_with fail
  have HR2 := HN5.out.res.set 3 (a : Int) (E : Int)
  have HB2 := Lib.hid (((HN5.out.below.setCell (p := ⟨w.heap.size, 0, none⟩) (Nat.le_refl _) (.int .i64 3)).setCell (p := ⟨w.heap.size, 1, none⟩) (Nat.le_refl _) (.int .i64 (a : Int))).setCell (p := ⟨w.heap.size, 2, none⟩) (Nat.le_refl _) (.int .i64 (E : Int)))
  clear c0 c1 c2 f0 f2 r0 r1 r2 g0 g1 g2 HN5
  generalize (((w5.setCell ⟨w.heap.size, 0, none⟩ (.int .i64 3)).setCell ⟨w.heap.size, 1, none⟩ (.int .i64 (a : Int))).setCell ⟨w.heap.size, 2, none⟩ (.int .i64 (E : Int))) = W2 at *
  have c0 := HR2.c0
  have c1 := HR2.c1
  have c2 := HR2.c2
  try simp only [Exit.inBlock, Exit.then]
  refine bodyPost_ret (by simp [results, Tryz.results40, go_sem, c0, c1, c2, Result.andThen]; try rfl) rfl ?_
  exact ⟨tok_ret (E := E) (by rw [HTK.out, kdN_zero HDG.out (by rw [HEX.out, ← HKK.out])]) (by omega), HB2.out⟩
 ·have hne : (kk != 0) = true := by simpa using hkz
  have HNK := Lib.hid (HN5.out.setK kk)
  go_wp2_with fail
  generalize w5.setCell ⟨w.heap.size + 1, 0, none⟩ (.int .i64 kk) = w6 at *
  clear c0 c1 c2 f0 f2 r0 r1 r2 g0 g1 g2 HN5
  have c0 := HNK.out.own.c0
  have c1 := HNK.out.own.c1
  have c2 := HNK.out.own.c2
  have f0 := HNK.out.own.f 0
  have f2 := HNK.out.own.f 2
  have r0 := HNK.out.res.c0
  have r1 := HNK.out.res.c1
  have r2 := HNK.out.res.c2
  have g0 := HNK.out.res.f 0
  have g1 := HNK.out.res.f 1
  have g2 := HNK.out.res.f 2
  have HR2 := HNK.out.res.set kk (a : Int) (E : Int)
  have HB2 := Lib.hid (((HNK.out.below.setCell (p := ⟨w.heap.size, 0, none⟩) (Nat.le_refl _) (.int .i64 kk)).setCell (p := ⟨w.heap.size, 1, none⟩) (Nat.le_refl _) (.int .i64 (a : Int))).setCell (p := ⟨w.heap.size, 2, none⟩) (Nat.le_refl _) (.int .i64 (E : Int)))
  clear c0 c1 c2 f0 f2 r0 r1 r2 g0 g1 g2 HNK
  generalize (((w6.setCell ⟨w.heap.size, 0, none⟩ (.int .i64 kk)).setCell ⟨w.heap.size, 1, none⟩ (.int .i64 (a : Int))).setCell ⟨w.heap.size, 2, none⟩ (.int .i64 (E : Int))) = W2 at *
  have c0 := HR2.c0
  have c1 := HR2.c1
  have c2 := HR2.c2
  try simp only [Exit.inBlock, Exit.then]
  refine bodyPost_ret (by simp [results, Tryz.results40, go_sem, c0, c1, c2, Result.andThen]; try rfl) rfl ?_
  exact ⟨tok_ret (E := E) (by rw [HTK.out, kdN_some HDG.out (by rw [HEX.out, ← HKK.out]; exact hkz), HEX.out, ← HKK.out]) (by omega), HB2.out⟩
set_option maxHeartbeats 4000000 in
theorem dnext_else2 (s : ByteArray) (hs : s.size ≤ 1000000) (a : Nat) (ha : a < s.size) (h1 : blankB s[a] = false) (h2 : ((s[a].toNat : Int) == 34) = false) (h4 : restB s[a] = false) (h5 : signB s[a] = false) (h6 : ((s[a].toNat : Int) == 40) = true) (h7 : s.size = a + 1) (w : World) :
  Calls Tryz.prog 40 #[.string s, .int .i64 a] w fun e w' => e = .returned (tokV a (tokN (s.data.toList.drop a))) ∧ Below w.heap.size w w' := by
 have hd0 : digB s[a] = false := by
  have q4 := h4
  unfold restB at q4
  simp only [Bool.or_eq_false_iff] at q4
  exact q4.1.1.2
 have hT := tok_else s a ha h1 h2 (by rw [List.drop_eq_nil_of_le (by rw [data_len]; omega)]; simp [headB]) h4 h5
 have h8 : ¬ (a : Int) + 1 < (s.size : Int) := by omega
 have HDG := Lib.hid (dgB_no s a (a + 1) (by omega) (by omega) hd0)
 have HB := fun W => dblank_any s[a] W
 rw [h1] at HB
 have HR := fun W => refRest_any s[a] W
 rw [h4] at HR
 have HS := fun W => signs_any s[a] W
 rw [h5] at HS
 have HT := Lib.hid hT
 obtain ⟨E, hE⟩ : ∃ E : Nat, E = a + 1 := ⟨_, rfl⟩
 rw [← hE] at HDG
 have hEs : E ≤ s.size := by omega
 have haE : a < E := by omega
 have HTK : Hid (tokN (s.data.toList.drop a) = (kdN s a E, E - a)) := Lib.hid (by rw [HT.out, hE]; simp)
 have HN := Lib.hid (nx_new w 3 a E)
 have hEi : (a : Int) + 1 = (E : Int) := by omega
 have HEH := Lib.hid hE
 clear h1 h4 h5 hT hd0 hE HT
 have hsl := slice_to s a E (by omega) hEs
 have HKD := fun W => refKind_any (s.extract a E) W (by simp; omega)
 obtain ⟨kk, hkk⟩ : ∃ kk, kk = kindN (s.extract a E) := ⟨_, rfl⟩
 rw [← hkk] at HKD
 have HKK := Lib.hid hkk
 clear hkk
 generalize hex : s.extract a E = ex at *
 have HEX := Lib.hid hex
 clear hex
 go_enter Tryz.func40, Tryz.ntmps40
 go_wp2_with fail
 refine (HB _).mono ?_
 rintro e w1 ⟨rfl, rfl⟩
 go_wp2_with fail
 refine (HR _).mono ?_
 rintro e w1 ⟨rfl, rfl⟩
 go_wp2_with fail
 refine (HS _).mono ?_
 rintro e w1 ⟨rfl, rfl⟩
 go_wp2_with fail
 refine (HKD _).mono ?_
 rintro e w5 ⟨rfl, hb5⟩
 generalize ((w.alloc (.cells #[.int .i64 0, .int .i64 0, .int .i64 0] 39)).alloc (.cells #[.int .i64 3, .int .i64 (a : Int), .int .i64 (E : Int)] 39)) = W0 at *
 have HN5 := Lib.hid (HN.out.step hb5)
 clear hb5 HN
 have c0 := HN5.out.own.c0
 have c1 := HN5.out.own.c1
 have c2 := HN5.out.own.c2
 have f0 := HN5.out.own.f 0
 have f2 := HN5.out.own.f 2
 have r0 := HN5.out.res.c0
 have r1 := HN5.out.res.c1
 have r2 := HN5.out.res.c2
 have g0 := HN5.out.res.f 0
 have g1 := HN5.out.res.f 1
 have g2 := HN5.out.res.f 2
 by_cases hkz : kk = 0
 ·subst hkz
  go_wp2_with fail
  have HR2 := HN5.out.res.set 3 (a : Int) (E : Int)
  have HB2 := Lib.hid (((HN5.out.below.setCell (p := ⟨w.heap.size, 0, none⟩) (Nat.le_refl _) (.int .i64 3)).setCell (p := ⟨w.heap.size, 1, none⟩) (Nat.le_refl _) (.int .i64 (a : Int))).setCell (p := ⟨w.heap.size, 2, none⟩) (Nat.le_refl _) (.int .i64 (E : Int)))
  clear c0 c1 c2 f0 f2 r0 r1 r2 g0 g1 g2 HN5
  generalize (((w5.setCell ⟨w.heap.size, 0, none⟩ (.int .i64 3)).setCell ⟨w.heap.size, 1, none⟩ (.int .i64 (a : Int))).setCell ⟨w.heap.size, 2, none⟩ (.int .i64 (E : Int))) = W2 at *
  have c0 := HR2.c0
  have c1 := HR2.c1
  have c2 := HR2.c2
  try simp only [Exit.inBlock, Exit.then]
  refine bodyPost_ret (by simp [results, Tryz.results40, go_sem, c0, c1, c2, Result.andThen]; try rfl) rfl ?_
  exact ⟨tok_ret (E := E) (by rw [HTK.out, kdN_zero HDG.out (by rw [HEX.out, ← HKK.out])]) (by omega), HB2.out⟩
 ·have hne : (kk != 0) = true := by simpa using hkz
  have HNK := Lib.hid (HN5.out.setK kk)
  go_wp2_with fail
  generalize w5.setCell ⟨w.heap.size + 1, 0, none⟩ (.int .i64 kk) = w6 at *
  clear c0 c1 c2 f0 f2 r0 r1 r2 g0 g1 g2 HN5
  have c0 := HNK.out.own.c0
  have c1 := HNK.out.own.c1
  have c2 := HNK.out.own.c2
  have f0 := HNK.out.own.f 0
  have f2 := HNK.out.own.f 2
  have r0 := HNK.out.res.c0
  have r1 := HNK.out.res.c1
  have r2 := HNK.out.res.c2
  have g0 := HNK.out.res.f 0
  have g1 := HNK.out.res.f 1
  have g2 := HNK.out.res.f 2
  have HR2 := HNK.out.res.set kk (a : Int) (E : Int)
  have HB2 := Lib.hid (((HNK.out.below.setCell (p := ⟨w.heap.size, 0, none⟩) (Nat.le_refl _) (.int .i64 kk)).setCell (p := ⟨w.heap.size, 1, none⟩) (Nat.le_refl _) (.int .i64 (a : Int))).setCell (p := ⟨w.heap.size, 2, none⟩) (Nat.le_refl _) (.int .i64 (E : Int)))
  clear c0 c1 c2 f0 f2 r0 r1 r2 g0 g1 g2 HNK
  generalize (((w6.setCell ⟨w.heap.size, 0, none⟩ (.int .i64 kk)).setCell ⟨w.heap.size, 1, none⟩ (.int .i64 (a : Int))).setCell ⟨w.heap.size, 2, none⟩ (.int .i64 (E : Int))) = W2 at *
  have c0 := HR2.c0
  have c1 := HR2.c1
  have c2 := HR2.c2
  try simp only [Exit.inBlock, Exit.then]
  refine bodyPost_ret (by simp [results, Tryz.results40, go_sem, c0, c1, c2, Result.andThen]; try rfl) rfl ?_
  exact ⟨tok_ret (E := E) (by rw [HTK.out, kdN_some HDG.out (by rw [HEX.out, ← HKK.out]; exact hkz), HEX.out, ← HKK.out]) (by omega), HB2.out⟩
set_option maxHeartbeats 4000000 in
theorem dnext_else3 (s : ByteArray) (hs : s.size ≤ 1000000) (a : Nat) (ha : a < s.size) (h1 : blankB s[a] = false) (h2 : ((s[a].toNat : Int) == 34) = false) (h4 : restB s[a] = false) (h5 : signB s[a] = false) (h6 : ((s[a].toNat : Int) == 40) = true) (h7 : a + 1 < s.size) (h8 : ((s[a + 1].toNat : Int) == 42) = false) (w : World) :
  Calls Tryz.prog 40 #[.string s, .int .i64 a] w fun e w' => e = .returned (tokV a (tokN (s.data.toList.drop a))) ∧ Below w.heap.size w w' := by
 have hd0 : digB s[a] = false := by
  have q4 := h4
  unfold restB at q4
  simp only [Bool.or_eq_false_iff] at q4
  exact q4.1.1.2
 have hT := tok_else s a ha h1 h2 (by rw [drop_at s (a + 1) h7, show headB (s[a + 1] :: s.data.toList.drop (a + 1 + 1)) 42 = eqB s[a + 1] 42 from rfl, show eqB s[a + 1] 42 = false from h8]; simp) h4 h5
 have h9 : ∀ j (hj : j < s.size), j = a + 1 → ((s[j].toNat : Int) == 42) = false := fun j hj e => by subst e; exact h8
 have HJ9 := Lib.hid h9
 clear h8 h9
 have HDG := Lib.hid (dgB_no s a (a + 1) (by omega) (by omega) hd0)
 have HB := fun W => dblank_any s[a] W
 rw [h1] at HB
 have HR := fun W => refRest_any s[a] W
 rw [h4] at HR
 have HS := fun W => signs_any s[a] W
 rw [h5] at HS
 have HT := Lib.hid hT
 obtain ⟨E, hE⟩ : ∃ E : Nat, E = a + 1 := ⟨_, rfl⟩
 rw [← hE] at HDG
 have hEs : E ≤ s.size := by omega
 have haE : a < E := by omega
 have HTK : Hid (tokN (s.data.toList.drop a) = (kdN s a E, E - a)) := Lib.hid (by rw [HT.out, hE]; simp)
 have HN := Lib.hid (nx_new w 3 a E)
 have hEi : (a : Int) + 1 = (E : Int) := by omega
 have HEH := Lib.hid hE
 have hEl : E < s.size := by omega
 have h9 := HJ9.out E hEl hE
 clear HJ9 h7
 clear h1 h4 h5 hT hd0 hE HT
 have hsl := slice_to s a E (by omega) hEs
 have HKD := fun W => refKind_any (s.extract a E) W (by simp; omega)
 obtain ⟨kk, hkk⟩ : ∃ kk, kk = kindN (s.extract a E) := ⟨_, rfl⟩
 rw [← hkk] at HKD
 have HKK := Lib.hid hkk
 clear hkk
 generalize hex : s.extract a E = ex at *
 have HEX := Lib.hid hex
 clear hex
 go_enter Tryz.func40, Tryz.ntmps40
 go_wp2_with fail
 refine (HB _).mono ?_
 rintro e w1 ⟨rfl, rfl⟩
 go_wp2_with fail
 refine (HR _).mono ?_
 rintro e w1 ⟨rfl, rfl⟩
 go_wp2_with fail
 refine (HS _).mono ?_
 rintro e w1 ⟨rfl, rfl⟩
 go_wp2_with fail
 refine (HKD _).mono ?_
 rintro e w5 ⟨rfl, hb5⟩
 generalize ((w.alloc (.cells #[.int .i64 0, .int .i64 0, .int .i64 0] 39)).alloc (.cells #[.int .i64 3, .int .i64 (a : Int), .int .i64 (E : Int)] 39)) = W0 at *
 have HN5 := Lib.hid (HN.out.step hb5)
 clear hb5 HN
 have c0 := HN5.out.own.c0
 have c1 := HN5.out.own.c1
 have c2 := HN5.out.own.c2
 have f0 := HN5.out.own.f 0
 have f2 := HN5.out.own.f 2
 have r0 := HN5.out.res.c0
 have r1 := HN5.out.res.c1
 have r2 := HN5.out.res.c2
 have g0 := HN5.out.res.f 0
 have g1 := HN5.out.res.f 1
 have g2 := HN5.out.res.f 2
 by_cases hkz : kk = 0
 ·subst hkz
  go_wp2_with fail
  have HR2 := HN5.out.res.set 3 (a : Int) (E : Int)
  have HB2 := Lib.hid (((HN5.out.below.setCell (p := ⟨w.heap.size, 0, none⟩) (Nat.le_refl _) (.int .i64 3)).setCell (p := ⟨w.heap.size, 1, none⟩) (Nat.le_refl _) (.int .i64 (a : Int))).setCell (p := ⟨w.heap.size, 2, none⟩) (Nat.le_refl _) (.int .i64 (E : Int)))
  clear c0 c1 c2 f0 f2 r0 r1 r2 g0 g1 g2 HN5
  generalize (((w5.setCell ⟨w.heap.size, 0, none⟩ (.int .i64 3)).setCell ⟨w.heap.size, 1, none⟩ (.int .i64 (a : Int))).setCell ⟨w.heap.size, 2, none⟩ (.int .i64 (E : Int))) = W2 at *
  have c0 := HR2.c0
  have c1 := HR2.c1
  have c2 := HR2.c2
  try simp only [Exit.inBlock, Exit.then]
  refine bodyPost_ret (by simp [results, Tryz.results40, go_sem, c0, c1, c2, Result.andThen]; try rfl) rfl ?_
  exact ⟨tok_ret (E := E) (by rw [HTK.out, kdN_zero HDG.out (by rw [HEX.out, ← HKK.out])]) (by omega), HB2.out⟩
 ·have hne : (kk != 0) = true := by simpa using hkz
  have HNK := Lib.hid (HN5.out.setK kk)
  go_wp2_with fail
  generalize w5.setCell ⟨w.heap.size + 1, 0, none⟩ (.int .i64 kk) = w6 at *
  clear c0 c1 c2 f0 f2 r0 r1 r2 g0 g1 g2 HN5
  have c0 := HNK.out.own.c0
  have c1 := HNK.out.own.c1
  have c2 := HNK.out.own.c2
  have f0 := HNK.out.own.f 0
  have f2 := HNK.out.own.f 2
  have r0 := HNK.out.res.c0
  have r1 := HNK.out.res.c1
  have r2 := HNK.out.res.c2
  have g0 := HNK.out.res.f 0
  have g1 := HNK.out.res.f 1
  have g2 := HNK.out.res.f 2
  have HR2 := HNK.out.res.set kk (a : Int) (E : Int)
  have HB2 := Lib.hid (((HNK.out.below.setCell (p := ⟨w.heap.size, 0, none⟩) (Nat.le_refl _) (.int .i64 kk)).setCell (p := ⟨w.heap.size, 1, none⟩) (Nat.le_refl _) (.int .i64 (a : Int))).setCell (p := ⟨w.heap.size, 2, none⟩) (Nat.le_refl _) (.int .i64 (E : Int)))
  clear c0 c1 c2 f0 f2 r0 r1 r2 g0 g1 g2 HNK
  generalize (((w6.setCell ⟨w.heap.size, 0, none⟩ (.int .i64 kk)).setCell ⟨w.heap.size, 1, none⟩ (.int .i64 (a : Int))).setCell ⟨w.heap.size, 2, none⟩ (.int .i64 (E : Int))) = W2 at *
  have c0 := HR2.c0
  have c1 := HR2.c1
  have c2 := HR2.c2
  try simp only [Exit.inBlock, Exit.then]
  refine bodyPost_ret (by simp [results, Tryz.results40, go_sem, c0, c1, c2, Result.andThen]; try rfl) rfl ?_
  exact ⟨tok_ret (E := E) (by rw [HTK.out, kdN_some HDG.out (by rw [HEX.out, ← HKK.out]; exact hkz), HEX.out, ← HKK.out]) (by omega), HB2.out⟩
theorem dnext_any (s : ByteArray) (hs : s.size ≤ 1000000) (a : Nat) (ha : a < s.size) (w : World) :
  Calls Tryz.prog 40 #[.string s, .int .i64 a] w fun e w' => e = .returned (tokV a (tokN (s.data.toList.drop a))) ∧ Below w.heap.size w w' := by
 cases h1 : blankB s[a]
 ·cases h2 : ((s[a].toNat : Int) == 34)
  ·cases h4 : restB s[a]
   ·cases h5 : signB s[a]
    ·cases h6 : ((s[a].toNat : Int) == 40)
     ·exact dnext_else1 s hs a ha h1 h2 h4 h5 h6 w
     ·by_cases h7 : a + 1 < s.size
      ·cases h8 : ((s[a + 1].toNat : Int) == 42)
       ·exact dnext_else3 s hs a ha h1 h2 h4 h5 h6 h7 h8 w
       ·exact dnext_note s hs a ha h6 h7 h8 w
      ·exact dnext_else2 s hs a ha h1 h2 h4 h5 h6 (by omega) w
    ·exact dnext_sign s hs a ha h5 w
   ·exact dnext_rest s hs a ha h4 w
  ·exact dnext_text s hs a ha h2 w
 ·exact dnext_blank s hs a ha h1 w
end Go.Proofs.YtkjgkchdkeggoaaGreatDoor

namespace Go.Proofs.YtkjgkchdkeggoaaGreatDoor
open Go.RowKit
set_option maxRecDepth 20000
set_option linter.unusedVariables false
set_option linter.unusedSimpArgs false

/-- A token more in a row of the call's own. -/
theorem toks_more {w1 w2 : World} {base : Nat} {v v' : Value} {l : List Tok} {k : Int} {a e : Nat} (h : w2.ownsRow base 39 3 v' (l.length + 1) (cellsT l ++ [.int .i64 k, .int .i64 (a : Int), .int .i64 (e : Int)])) : w2.ownsRow base 39 3 v' (l ++ [(⟨k, a, e⟩ : Tok)]).length (cellsT (l ++ [(⟨k, a, e⟩ : Tok)])) := by
 rw [List.length_append, List.length_singleton, cellsT_append]; exact h

set_option maxHeartbeats 2000000 in
theorem dscan_any (s : ByteArray) (hs : s.size ≤ 1000000) (w : World) :
  Calls Tryz.prog 25 #[.string s] w fun e w' => ∃ v, e = .returned v ∧ ToksAt w' v (scanT s) ∧ Below w.heap.size w w' := by
 obtain ⟨i0, hi0, hy0, hy1, hy2⟩ := info_parts info26
 have HSC : Hid (scanT s = scanF s.size 0 s.data.toList ++ [⟨0, s.size, s.size⟩]) := Lib.hid (by unfold scanT restT; rw [List.drop_zero])
 go_enter Tryz.func25, Tryz.ntmps25
 go_wp2_with fail
 go_loopw [3, 4, 5] (fun v av iv wr => ∃ (i a : Nat) (l : List Tok), i ≤ a ∧ a ≤ s.size ∧ l.length = i ∧ av = .int .i64 a ∧ iv = .int .i64 i ∧ Hid (scanF s.size 0 s.data.toList = l ++ scanF s.size a (s.data.toList.drop a)) ∧ Hid (wr.ownsRow w.heap.size 39 3 v l.length (cellsT l)) ∧ Below w.heap.size w wr) (fun _ _ iv _ => s.size + 1 - (intOf iv).toNat)
 case atStart => exact ⟨0, 0, [], by omega, by omega, rfl, rfl, rfl, Lib.hid (by rw [List.drop_zero]; rfl), Lib.hid (World.ownsRow_nil _ _ _ _), Below.refl _ _⟩
 case round =>
  obtain ⟨i, a, l, hia, has, hl, rfl, rfl, HQ, HO, hbe⟩ := hrel
  subst hl
  obtain ⟨vp, vc, rfl⟩ := own_form HO.out
  have hz := hbe.size
  have HB := Lib.hid hbe
  clear hbe
  have hi1 : (l.length : Int) ≤ (s.size : Int) := by omega
  by_cases hlt : a < s.size
  ·have hbo := tokN_bound (s.data.toList.drop a) (by rw [drop_at s a hlt]; simp)
   rw [List.length_drop, data_len] at hbo
   have hsc := scan_at s a hlt
   have HN := Lib.hid (dnext_any s hs a hlt wr)
   unfold tokV at HN
   generalize tokN (s.data.toList.drop a) = t at *
   obtain ⟨tk, tn⟩ := t
   simp only at hbo hsc HN
   obtain ⟨E, hE⟩ : ∃ E, E = a + tn := ⟨_, rfl⟩
   rw [← hE] at hsc HN
   have hE1 : a < E := by omega
   have hE2 : E ≤ s.size := by omega
   have HS := Lib.hid hsc
   clear hbo hsc hE
   have hla : (a : Int) < (s.size : Int) := by omega
   go_wp2_with fail
   refine HN.out.mono ?_
   rintro e w1 ⟨rfl, hb1⟩
   have hz1 := hb1.size
   have hbA : Below w1.heap.size w1 (w1.alloc (.cells #[.int .i64 tk, .int .i64 (a : Int), .int .i64 (E : Int)] 39)) := (Below.refl _ _).alloc (Nat.le_refl _) _
   have hbA2 : Below (w1.alloc (.cells #[.int .i64 tk, .int .i64 (a : Int), .int .i64 (E : Int)] 39)).heap.size (w1.alloc (.cells #[.int .i64 tk, .int .i64 (a : Int), .int .i64 (E : Int)] 39)) ((w1.alloc (.cells #[.int .i64 tk, .int .i64 (a : Int), .int .i64 (E : Int)] 39)).alloc (.cells #[.int .i64 tk, .int .i64 (a : Int), .int .i64 (E : Int)] 39)) := (Below.refl _ _).alloc (Nat.le_refl _) _
   have HOA := Lib.hid (ownsRow_below (ownsRow_below (ownsRow_below HO.out hb1) hbA) hbA2)
   have HBA := Lib.hid ((HB.out.trans (hb1.mono hz)).trans ((hbA.trans (hbA2.mono (by simp))).mono (by omega)))
   have HKX := Lib.hid ((hbA2.block w1.heap.size (by simp)).trans (heap_alloc_new w1 (.cells #[.int .i64 tk, .int .i64 (a : Int), .int .i64 (E : Int)] 39)))
   have HFR := Lib.hid (HO.out.lt)
   clear hbA hbA2 HN hb1
   have hl2 : l.length ≤ 1000000 := by omega
   go_wp2_with (at_builtin; refine wpList_append_own _ rfl _ _ 32 rfl w.heap.size 39 i0 (.agg #[.int .i64 0, .int .i64 0, .int .i64 0]) 3 24 Tryz.underlying32 hi0 hy0 hy1 hy2 rfl (by omega) (.slice vp l.length vc) l.length (cellsT l) rfl HOA.out ⟨w1.heap.size + 1, 0, none⟩ 1 1 [.int .i64 tk, .int .i64 (a : Int), .int .i64 (E : Int)] rfl rfl (World.news_of_block (cs := #[.int .i64 tk, .int .i64 (a : Int), .int .i64 (E : Int)]) (t := 39) (fr := (0, 0)) (by have := heap_alloc_new (w1.alloc (.cells #[.int .i64 tk, .int .i64 (a : Int), .int .i64 (E : Int)] 39)) (.cells #[.int .i64 tk, .int .i64 (a : Int), .int .i64 (E : Int)] 39); simpa using this)) (by simp [Value.oneCell']) (by unfold maxLen; omega) (by omega) (by simp; omega) ?_)
   intro v5 w5 hown hg _
   have hkx := Lib.cell_of_heap ((hg.block w1.heap.size (by simp; omega) (fun e => by have := (HFR.out _ e.symm).2; omega)).trans HKX.out) 2
   simp only [List.getElem?_toArray, List.getElem?_cons_zero, List.getElem?_cons_succ] at hkx
   have HO5 := Lib.hid (toks_more (w1 := w1) (v := v5) hown)
   have HB5 := Lib.hid (HBA.out.grown hg (by simp; omega) (fun q hq => (HFR.out q hq).1))
   clear hown hg
   go_wp2_with fail
   go_roundw
   case rel => exact ⟨l.length + 1, E, l ++ [⟨tk, a, E⟩], by omega, hE2, by simp, rfl, by go_num, Lib.hid (by rw [HQ.out, HS.out, List.append_assoc]; rfl), HO5, HB5.out⟩
   case measure => simp [intOf]; omega
  ·have hae : a = s.size := by omega
   have hla : ¬ (a : Int) < (s.size : Int) := by omega
   have HE : Hid (scanT s = l ++ [⟨0, s.size, s.size⟩]) := Lib.hid (by rw [HSC.out, HQ.out, scan_end s a _ (by omega)]; simp)
   have hbA : Below wr.heap.size wr (wr.alloc (.cells #[.int .i64 0, .int .i64 (s.size : Int), .int .i64 (s.size : Int)] 39)) := (Below.refl _ _).alloc (Nat.le_refl _) _
   have HOA := Lib.hid (ownsRow_below HO.out hbA)
   have HBA := Lib.hid (HB.out.trans (hbA.mono hz))
   have HFR := Lib.hid (HO.out.lt)
   clear hbA
   have hl2 : l.length ≤ 1000000 := by omega
   go_wp2_with (at_builtin; refine wpList_append_own _ rfl _ _ 32 rfl w.heap.size 39 i0 (.agg #[.int .i64 0, .int .i64 0, .int .i64 0]) 3 24 Tryz.underlying32 hi0 hy0 hy1 hy2 rfl (by omega) (.slice vp l.length vc) l.length (cellsT l) rfl HOA.out ⟨wr.heap.size, 0, none⟩ 1 1 [.int .i64 0, .int .i64 (s.size : Int), .int .i64 (s.size : Int)] rfl rfl (World.news_of_block (cs := #[.int .i64 0, .int .i64 (s.size : Int), .int .i64 (s.size : Int)]) (t := 39) (fr := (0, 0)) (heap_alloc_new wr _)) (by simp [Value.oneCell']) (by unfold maxLen; omega) (by omega) (by simp; omega) ?_)
   intro v5 w5 hown hg _
   have HO5 := Lib.hid (toks_more (w1 := wr) (v := v5) hown)
   have HB5 := Lib.hid (HBA.out.grown hg (by simp; omega) (fun q hq => (HFR.out q hq).1))
   clear hown hg
   go_wp2_with fail
   go_ret
   exact ⟨_, rfl, ⟨_, by rw [HE.out]; exact HO5.out⟩, HB5.out⟩
theorem pick_take (ask : Int → Bool) (l : List Tok) (i : Nat) (h : i < l.length) : pickT ask (l.take (i + 1)) = pickT ask (l.take i) ++ (bif ask l[i].k then [l[i]] else []) := by
 rw [List.take_succ_eq_append_getElem h, pickT_append]
 rfl
theorem scanT_len (s : ByteArray) : 0 < (scanT s).length ∧ (scanT s).length ≤ s.size + 1 := by
 have := (scanF_in s.size 0 s.data.toList).2
 rw [data_len] at this
 unfold scanT restT
 rw [List.drop_zero, List.length_append, List.length_singleton]
 omega

set_option maxHeartbeats 2000000 in
theorem dwords_any (s : ByteArray) (hs : s.size ≤ 1000000) (w : World) :
  Calls Tryz.prog 11 #[.string s] w fun e w' => ∃ v, e = .returned v ∧ ToksAt w' v (wordsT s) ∧ Below w.heap.size w w' := by
 obtain ⟨i0, hi0, hy0, hy1, hy2⟩ := info_parts info26
 have hlen := scanT_len s
 have HD := Lib.hid (dscan_any s hs w)
 have HW : Hid (wordsT s = pickT saysB (scanT s)) := Lib.hid rfl
 generalize scanT s = L at *
 go_enter Tryz.func11, Tryz.ntmps11
 go_wp2_with fail
 refine HD.out.mono ?_
 rintro e w1 ⟨v1, rfl, ht, hb1⟩
 obtain ⟨g, c, rfl, hc, hm, hg, hcells⟩ := ht.open hlen.1
 have HC := Lib.hid hcells
 have HB1 := Lib.hid hb1
 have hz1 := hb1.size
 clear ht hcells HD hb1
 go_wp2_with fail
 go_loopw [3, 5] (fun v iv wr => ∃ i : Nat, i ≤ L.length ∧ iv = .int .i64 i ∧ Hid (wr.ownsRow w1.heap.size 39 3 v (pickT saysB (L.take i)).length (cellsT (pickT saysB (L.take i)))) ∧ Below w1.heap.size w1 wr) (fun _ iv _ => L.length - (intOf iv).toNat)
 case atStart => exact ⟨0, by omega, rfl, Lib.hid (World.ownsRow_nil _ _ _ _), Below.refl _ _⟩
 case round =>
  obtain ⟨i, hi, rfl, HO, hbe⟩ := hrel
  obtain ⟨vp, vc, rfl⟩ := own_form HO.out
  have hz := hbe.size
  by_cases hlt : i < L.length
  ·obtain ⟨q0, q1, q2⟩ := (HC.out.step hg hbe) i hlt
   have hT := pick_take saysB L i hlt
   have hpl := pickT_length saysB (L.take i)
   rw [List.length_take] at hpl
   have hr1 : (0 : Int) ≤ (i : Int) := by omega
   have hr2 : (i : Int) < (L.length : Int) := by omega
   have HB := Lib.hid hbe
   generalize pickT saysB (L.take i) = P at *
   have hpl2 : P.length ≤ 1000001 := by omega
   clear hbe hpl
   generalize L[i] = T at *
   obtain ⟨tk, ta, te⟩ := T
   simp only at q0 q1 q2 hT
   by_cases h1 : tk = 1
   ·subst h1
    have HT : Hid (pickT saysB (L.take (i + 1)) = P) := Lib.hid (by rw [hT]; simp [saysB])
    clear hT
    go_wp2_with fail
    go_roundw
    case rel => exact ⟨i + 1, by omega, by go_num, by rw [HT.out]; exact HO, HB.out⟩
    case measure => simp [intOf]; omega
   ·by_cases h2 : tk = 2
    ·subst h2
     have HT : Hid (pickT saysB (L.take (i + 1)) = P) := Lib.hid (by rw [hT]; simp [saysB])
     clear hT
     go_wp2_with fail
     go_roundw
     case rel => exact ⟨i + 1, by omega, by go_num, by rw [HT.out]; exact HO, HB.out⟩
     case measure => simp [intOf]; omega
    ·have HT : Hid (pickT saysB (L.take (i + 1)) = P ++ [⟨tk, ta, te⟩]) := Lib.hid (by
      have e1 : (tk == 1) = false := by simpa using h1
      have e2 : (tk == 2) = false := by simpa using h2
      rw [hT]; simp only [saysB, e1, e2]; rfl)
     have h1' : (tk != 1) = true := by simp [h1]
     have h2' : (tk != 2) = true := by simp [h2]
     have hbA : Below wr.heap.size wr (wr.alloc (.cells #[.int .i64 tk, .int .i64 (ta : Int), .int .i64 (te : Int)] 39)) := (Below.refl _ _).alloc (Nat.le_refl _) _
     have HOA := Lib.hid (ownsRow_below HO.out hbA)
     have HBA := Lib.hid (HB.out.trans (hbA.mono hz))
     have HFR := Lib.hid (HO.out.lt)
     clear hbA hT
     go_wp2_with (at_builtin; refine wpList_append_own _ rfl _ _ 32 rfl w1.heap.size 39 i0 (.agg #[.int .i64 0, .int .i64 0, .int .i64 0]) 3 24 Tryz.underlying32 hi0 hy0 hy1 hy2 rfl (by omega) (.slice vp P.length vc) P.length (cellsT P) rfl HOA.out ⟨wr.heap.size, 0, none⟩ 1 1 [.int .i64 tk, .int .i64 (ta : Int), .int .i64 (te : Int)] rfl rfl (World.news_of_block (cs := #[.int .i64 tk, .int .i64 (ta : Int), .int .i64 (te : Int)]) (t := 39) (fr := (0, 0)) (heap_alloc_new wr _)) (by simp [Value.oneCell']) (by unfold maxLen; omega) (by omega) (by simp; omega) ?_)
     intro v5 w5 hown hg5 _
     have HO5 := Lib.hid (toks_more (w1 := wr) (v := v5) hown)
     have HB5 := Lib.hid (HBA.out.grown hg5 (by simp; omega) (fun q hq => (HFR.out q hq).1))
     clear hown hg5
     go_wp2_with fail
     go_roundw
     case rel => exact ⟨i + 1, by omega, by go_num, by rw [HT.out]; exact HO5, HB5.out⟩
     case measure => simp [intOf]; omega
  ·have hil : i = L.length := by omega
   have HTL := Lib.hid (List.take_of_length_le (l := L) (i := i) (by omega))
   have HB := Lib.hid (HB1.out.trans (hbe.mono hz1))
   clear hbe
   go_wp2_with fail
   go_ret
   exact ⟨_, rfl, ⟨_, by rw [HW.out, ← HTL.out]; simpa [List.take_take] using HO.out⟩, HB.out⟩

/-- What the document says of a token. -/
def badD (s : ByteArray) (T : Tok) : Int := bif noBad T then 0 else badN s T.a
set_option maxHeartbeats 2000000 in
theorem dbad_any (s : ByteArray) (hs : s.size ≤ 1000000) (T : Tok) (hT : T.k = 3 → T.a < T.e ∧ T.e ≤ s.size) (w : World) :
  Calls Tryz.prog 28 #[T.v, .string s] w fun e w' => e = .returned (.int .i64 (badD s T)) ∧ Below w.heap.size w w' := by
 obtain ⟨k, a, e⟩ := T
 simp only [Tok.v] at *
 have HBL := Lib.hid ((Below.refl w.heap.size w).alloc (Nat.le_refl _) (.cells #[.int .i64 k, .int .i64 (a : Int), .int .i64 (e : Int)] 39))
 by_cases h3 : k = 3
 ·subst h3
  obtain ⟨h1, h2⟩ := hT rfl
  have ha : a < s.size := by omega
  have g1 : ¬ (a : Int) < 0 := by omega
  have g2 : ¬ (s.size : Int) ≤ (a : Int) := by omega
  have g3 : ¬ (e : Int) ≤ (a : Int) := by omega
  have g4 : ¬ (s.size : Int) < (e : Int) := by omega
  have hR : badD s ⟨3, a, e⟩ = bif ((s[a].toNat : Int) == 34) || ((s[a].toNat : Int) == 40) then 8 else 7 := by
   unfold badD badN
   rw [drop_at s a ha]
   unfold headB eqB
   rfl
  rw [hR]
  clear hT hR
  cases q1 : ((s[a].toNat : Int) == 34)
  ·cases q2 : ((s[a].toNat : Int) == 40)
   ·go_enter Tryz.func28, Tryz.ntmps28
    go_wp2_with fail
    go_ret
    exact ⟨rfl, HBL.out⟩
   ·go_enter Tryz.func28, Tryz.ntmps28
    go_wp2_with fail
    go_ret
    exact ⟨rfl, HBL.out⟩
  ·go_enter Tryz.func28, Tryz.ntmps28
   go_wp2_with fail
   go_ret
   exact ⟨rfl, HBL.out⟩
 ·have hk : (k != 3) = true := by simp [h3]
  have HR : Hid (badD s ⟨k, a, e⟩ = 0) := Lib.hid (by
   unfold badD noBad
   have : (k == 3) = false := by simpa using h3
   simp only [this]; rfl)
  rw [HR.out]
  clear hT
  go_enter Tryz.func28, Tryz.ntmps28
  go_wp2_with fail
  go_ret
  exact ⟨rfl, HBL.out⟩
end Go.Proofs.YtkjgkchdkeggoaaGreatDoor

namespace Go.Proofs.YtkjgkchdkeggoaaGreatDoor
open Go.RowKit
set_option linter.unusedVariables false
set_option linter.unusedSimpArgs false

/-- 'make([]T, n, c)', both variable: a new block of zeros. -/
theorem wpList_make_room {P : Program} (w : World) {ops : Array Oper} {rest : List Oper} {o : Oper} {a : Act} {Q : Exit → Act → World → Prop}
  (hg : o.guard = none) (l c : Operand) (t : TypeId) (hop : o.op = Op.makeSlice t l c)
  (e : TypeId) (i : TypeInfo) (k : IntKind) (x : Int) (h1 : P.underlying t = some (.slice e)) (h2 : P.info? e = some i) (h3 : i.zero = some (.int k x)) (h4 : i.size = 1)
  (kl kc : IntKind) (L C : Int) (n m : Nat) (hl : a.eval l = .int kl L) (hc : a.eval c = .int kc C) (hL : L = (n : Int)) (hC : C = (m : Int)) (hnm : n ≤ m) (b2 : i.bytes * m ≤ 281474976710656) (b3 : (m : Int) ≤ 9223372036854775807)
  (hK : wpList P ops Q rest (a.put o.dst (.slice (some ⟨w.heap.size, 0, none⟩) n m)) (w.alloc (.cells (List.replicate m (Value.int k x)).toArray e))) :
  wpList P ops Q (o :: rest) a w := by
 refine wpList_plain hg fun K hK' => ?_
 have hb : (i.bytes : Int) * (m : Int) ≤ 281474976710656 := by
  have h : ((i.bytes * m : Nat) : Int) ≤ 281474976710656 := by omega
  rwa [Int.natCast_mul] at h
 have hrun := run_make (P := P) w t e i (.int k x) h1 h2 h3 kl kc (n : Int) (m : Int) (by omega) (by omega) hb b3
 have hm : madeCells (Value.int k x).cells (m * 1) = (List.replicate m (Value.int k x)).toArray := by
  rw [← toList_madeCells_one (Value.int k x) m, Nat.mul_one]
  rfl
 rw [h4, Int.toNat_natCast, Int.toNat_natCast, hm] at hrun
 subst hL hC
 unfold Oper.wp
 simp [execOp, hop, hl, hc, hrun, Result.andThen]
 exact hK' _ _ hK

/-- How often kids are met, as the law counts them. -/
def SeenAt (w : World) (gs N : Nat) (f : Nat → Int) : Prop := ∃ cur : Array Value, w.heap[gs]? = some (.cells cur 3 (0, 0)) ∧ ∀ k, k < N → cur[k]? = some (.int .i64 (f k))
theorem SeenAt.cell {w : World} {gs N : Nat} {f : Nat → Int} (h : SeenAt w gs N f) {k : Nat} (hk : k < N) : w.cell? ⟨gs, k, none⟩ = some (.int .i64 (f k)) ∧ w.frozen? ⟨gs, k, none⟩ = false := by
 obtain ⟨cur, h1, h2⟩ := h
 exact ⟨by rw [Lib.cell_of_heap h1, h2 k hk], frozen_of_row _ _ _ _ _ h1⟩
theorem SeenAt.kept {w w1 : World} {gs N : Nat} {f : Nat → Int} (h : SeenAt w gs N f) (hw : w1.heap[gs]? = w.heap[gs]?) : SeenAt w1 gs N f := by
 obtain ⟨cur, h1, h2⟩ := h
 exact ⟨cur, hw.trans h1, h2⟩
theorem SeenAt.set {w : World} {gs N : Nat} {f : Nat → Int} (h : SeenAt w gs N f) {k : Nat} (hk : k < N) (u : Int) : SeenAt (w.setCell ⟨gs, k, none⟩ (.int .i64 u)) gs N (fun i => bif i == k then u else f i) := by
 obtain ⟨cur, h1, h2⟩ := h
 refine ⟨_, heap_setCell_same w gs k cur 3 _ h1, fun i hi => ?_⟩
 cases hik : (i == k)
 ·have : i ≠ k := by simpa using hik
  rw [Array.getElem?_setIfInBounds_ne (fun e => this e.symm), h2 i hi]; simp [hik]
 ·have : i = k := by simpa using hik
  subst this
  have : i < cur.size := (Array.getElem?_eq_some_iff.1 (h2 i hi)).1
  simp [this]
theorem SeenAt.congr {w : World} {gs N : Nat} {f f' : Nat → Int} (h : SeenAt w gs N f) (hf : ∀ k, k < N → f k = f' k) : SeenAt w gs N f' := by
 obtain ⟨cur, h1, h2⟩ := h
 exact ⟨cur, h1, fun k hk => by rw [h2 k hk, hf k hk]⟩
theorem SeenAt.lt {w : World} {gs N : Nat} {f : Nat → Int} (h : SeenAt w gs N f) : gs < w.heap.size := by
 obtain ⟨cur, h1, _⟩ := h
 exact (Array.getElem?_eq_some_iff.1 h1).1
end Go.Proofs.YtkjgkchdkeggoaaGreatDoor
