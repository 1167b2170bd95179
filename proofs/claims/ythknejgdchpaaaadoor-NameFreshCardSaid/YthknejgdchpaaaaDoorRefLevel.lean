/-
  The document's Level.
-/
import Derived.Test.YthknejgdchpaaaaDoorLevel
namespace Go.Proofs.YthknejgdchpaaaaDoor
open Go.RowKit
set_option linter.unusedVariables false
set_option linter.unusedSimpArgs false

theorem first_eq (s : ByteArray) (h : 0 < s.size) (n : UInt8) : ((⟨#[n]⟩ : ByteArray).toList == (s.extract 0 1).toList) = ((s[0].toNat : Int) == (n.toNat : Int)) := by
  have e1 : (s.extract 0 1).toList = [s[0]] := by
    rw [Lib.extract_toList, List.drop_zero, data_cons s h]; rfl
  have e2 : (⟨#[n]⟩ : ByteArray).toList = [n] := by simp [Lib.toList_data]
  rw [e1, e2, Bool.eq_iff_iff, beq_iff_eq, beq_iff_eq, List.cons.injEq, eq_comm]
  simp only [and_true]
  rw [u8_eq]
theorem in_g7 (s : ByteArray) (h : 0 < s.size) : inB [⟨#[42]⟩, ⟨#[47]⟩, ⟨#[37]⟩] (s.extract 0 1) = g7 s[0] := by
  unfold inB g7; simp only [List.any_cons, List.any_nil, first_eq s h, Bool.or_false]; simp [Bool.or_assoc]
theorem in_g6 (s : ByteArray) (h : 0 < s.size) : inB [⟨#[43]⟩, ⟨#[45]⟩] (s.extract 0 1) = g6 s[0] := by
  unfold inB g6; simp only [List.any_cons, List.any_nil, first_eq s h, Bool.or_false]; simp [Bool.or_assoc]
theorem in_g5 (s : ByteArray) (h : 0 < s.size) : inB [⟨#[94]⟩, ⟨#[64]⟩, ⟨#[58]⟩] (s.extract 0 1) = g5 s[0] := by
  unfold inB g5; simp only [List.any_cons, List.any_nil, first_eq s h, Bool.or_false]; simp [Bool.or_assoc]
theorem in_g4 (s : ByteArray) (h : 0 < s.size) : inB [⟨#[61]⟩, ⟨#[60]⟩, ⟨#[62]⟩, ⟨#[33]⟩] (s.extract 0 1) = g4 s[0] := by
  unfold inB g4; simp only [List.any_cons, List.any_nil, first_eq s h, Bool.or_false]; simp [Bool.or_assoc]
theorem in_g3 (s : ByteArray) (h : 0 < s.size) : inB [⟨#[38]⟩, ⟨#[124]⟩] (s.extract 0 1) = g3 s[0] := by
  unfold inB g3; simp only [List.any_cons, List.any_nil, first_eq s h, Bool.or_false]; simp [Bool.or_assoc]

theorem new_g7 (s : ByteArray) (h : 0 < s.size) (n : Nat) (w : World) (hn : n = w.heap.size) (b : Bool) (hb : g7 s[0] = b) :
    Calls Tryd.prog 15 #[.slice (some ⟨n, 0, none⟩) 3 3, .string (s.extract 0 1)] (w.alloc (.cells #[.string ⟨#[42]⟩, .string ⟨#[47]⟩, .string ⟨#[37]⟩] 9)) fun e w' => e = .returned (.bool b) ∧ w.alloc (.cells #[.string ⟨#[42]⟩, .string ⟨#[47]⟩, .string ⟨#[37]⟩] 9) = w' := by
  subst hn
  have H := in_any [⟨#[42]⟩, ⟨#[47]⟩, ⟨#[37]⟩] (s.extract 0 1) _ 3 3 _ (in_new w [⟨#[42]⟩, ⟨#[47]⟩, ⟨#[37]⟩] 9 3 rfl) (by omega)
  rw [in_g7 s h, hb] at H
  exact H
theorem new_g6 (s : ByteArray) (h : 0 < s.size) (n : Nat) (w : World) (hn : n = w.heap.size) (b : Bool) (hb : g6 s[0] = b) :
    Calls Tryd.prog 15 #[.slice (some ⟨n, 0, none⟩) 2 2, .string (s.extract 0 1)] (w.alloc (.cells #[.string ⟨#[43]⟩, .string ⟨#[45]⟩] 9)) fun e w' => e = .returned (.bool b) ∧ w.alloc (.cells #[.string ⟨#[43]⟩, .string ⟨#[45]⟩] 9) = w' := by
  subst hn
  have H := in_any [⟨#[43]⟩, ⟨#[45]⟩] (s.extract 0 1) _ 2 2 _ (in_new w [⟨#[43]⟩, ⟨#[45]⟩] 9 2 rfl) (by omega)
  rw [in_g6 s h, hb] at H
  exact H
theorem new_g5 (s : ByteArray) (h : 0 < s.size) (n : Nat) (w : World) (hn : n = w.heap.size) (b : Bool) (hb : g5 s[0] = b) :
    Calls Tryd.prog 15 #[.slice (some ⟨n, 0, none⟩) 3 3, .string (s.extract 0 1)] (w.alloc (.cells #[.string ⟨#[94]⟩, .string ⟨#[64]⟩, .string ⟨#[58]⟩] 9)) fun e w' => e = .returned (.bool b) ∧ w.alloc (.cells #[.string ⟨#[94]⟩, .string ⟨#[64]⟩, .string ⟨#[58]⟩] 9) = w' := by
  subst hn
  have H := in_any [⟨#[94]⟩, ⟨#[64]⟩, ⟨#[58]⟩] (s.extract 0 1) _ 3 3 _ (in_new w [⟨#[94]⟩, ⟨#[64]⟩, ⟨#[58]⟩] 9 3 rfl) (by omega)
  rw [in_g5 s h, hb] at H
  exact H
theorem new_g4 (s : ByteArray) (h : 0 < s.size) (n : Nat) (w : World) (hn : n = w.heap.size) (b : Bool) (hb : g4 s[0] = b) :
    Calls Tryd.prog 15 #[.slice (some ⟨n, 0, none⟩) 4 4, .string (s.extract 0 1)] (w.alloc (.cells #[.string ⟨#[61]⟩, .string ⟨#[60]⟩, .string ⟨#[62]⟩, .string ⟨#[33]⟩] 9)) fun e w' => e = .returned (.bool b) ∧ w.alloc (.cells #[.string ⟨#[61]⟩, .string ⟨#[60]⟩, .string ⟨#[62]⟩, .string ⟨#[33]⟩] 9) = w' := by
  subst hn
  have H := in_any [⟨#[61]⟩, ⟨#[60]⟩, ⟨#[62]⟩, ⟨#[33]⟩] (s.extract 0 1) _ 4 4 _ (in_new w [⟨#[61]⟩, ⟨#[60]⟩, ⟨#[62]⟩, ⟨#[33]⟩] 9 4 rfl) (by omega)
  rw [in_g4 s h, hb] at H
  exact H
theorem new_g3 (s : ByteArray) (h : 0 < s.size) (n : Nat) (w : World) (hn : n = w.heap.size) (b : Bool) (hb : g3 s[0] = b) :
    Calls Tryd.prog 15 #[.slice (some ⟨n, 0, none⟩) 2 2, .string (s.extract 0 1)] (w.alloc (.cells #[.string ⟨#[38]⟩, .string ⟨#[124]⟩] 9)) fun e w' => e = .returned (.bool b) ∧ w.alloc (.cells #[.string ⟨#[38]⟩, .string ⟨#[124]⟩] 9) = w' := by
  subst hn
  have H := in_any [⟨#[38]⟩, ⟨#[124]⟩] (s.extract 0 1) _ 2 2 _ (in_new w [⟨#[38]⟩, ⟨#[124]⟩] 9 2 rfl) (by omega)
  rw [in_g3 s h, hb] at H
  exact H

set_option maxHeartbeats 2000000 in
theorem refLevel_any (s : ByteArray) (w : World) (hs : s.size ≤ 9223372036854775807) : Calls Tryd.prog 10 #[.string s] w fun e w' => e = .returned (.tuple #[.int .i64 (levN s), .bool (levR s)]) ∧ Below w.heap.size w w' := by
  have HK := refKind_any s w hs
  cases hq : (kindN s == 9)
  case false =>
    have HN : Hid (levN s = 0 ∧ levR s = false) := Lib.hid (by unfold levN levR; rw [hq]; exact ⟨rfl, rfl⟩)
    generalize kindN s = x at *
    go_enter Tryd.func10, Tryd.ntmps10
    go_wp2_with (first | (go_at_call 13; refine HK.mono ?_; rintro e w1 ⟨rfl, hb⟩))
    go_ret2
    exact ⟨ret_lev HN.out.1.symm HN.out.2.symm, hb⟩
  have h9 : kindN s = 9 := by simpa using hq
  have hp := kind_pos s h9
  have HN : Hid (levN s = lvN s[0] ∧ levR s = lvR s[0]) := Lib.hid (by unfold levN levR; rw [hq, fb_eq s hp]; exact ⟨rfl, rfl⟩)
  unfold lvN lvR at HN
  rw [h9] at HK
  clear hq h9
  cases e7 : g7 s[0] <;> simp only [e7, cond_true, cond_false] at HN <;> have I7 := Lib.hid e7 <;> clear e7
  case true =>
    go_enter Tryd.func10, Tryd.ntmps10
    go_wp2_with (first | (go_at_call 13; refine HK.mono ?_; rintro e w1 ⟨rfl, hb⟩))
    refine (new_g7 s hp _ _ ?hn _ I7.out).mono ?_
    case hn => simp
    rintro e w2 ⟨rfl, rfl⟩
    go_wp2_with fail
    go_ret2
    exact ⟨ret_lev HN.out.1.symm HN.out.2.symm, (hb).alloc (by have := hb.size; simp; omega) _⟩
  cases e6 : g6 s[0] <;> simp only [e6, cond_true, cond_false] at HN <;> have I6 := Lib.hid e6 <;> clear e6
  case true =>
    go_enter Tryd.func10, Tryd.ntmps10
    go_wp2_with (first | (go_at_call 13; refine HK.mono ?_; rintro e w1 ⟨rfl, hb⟩))
    refine (new_g7 s hp _ _ ?hn _ I7.out).mono ?_
    case hn => simp
    rintro e w2 ⟨rfl, rfl⟩
    go_wp2_with fail
    refine (new_g6 s hp _ _ ?hn _ I6.out).mono ?_
    case hn => simp
    rintro e w3 ⟨rfl, rfl⟩
    go_wp2_with fail
    go_ret2
    exact ⟨ret_lev HN.out.1.symm HN.out.2.symm, ((hb).alloc (by have := hb.size; simp; omega) _).alloc (by have := hb.size; simp; omega) _⟩
  cases e5 : g5 s[0] <;> simp only [e5, cond_true, cond_false] at HN <;> have I5 := Lib.hid e5 <;> clear e5
  case true =>
    go_enter Tryd.func10, Tryd.ntmps10
    go_wp2_with (first | (go_at_call 13; refine HK.mono ?_; rintro e w1 ⟨rfl, hb⟩))
    refine (new_g7 s hp _ _ ?hn _ I7.out).mono ?_
    case hn => simp
    rintro e w2 ⟨rfl, rfl⟩
    go_wp2_with fail
    refine (new_g6 s hp _ _ ?hn _ I6.out).mono ?_
    case hn => simp
    rintro e w3 ⟨rfl, rfl⟩
    go_wp2_with fail
    refine (new_g5 s hp _ _ ?hn _ I5.out).mono ?_
    case hn => simp
    rintro e w4 ⟨rfl, rfl⟩
    go_wp2_with fail
    go_ret2
    exact ⟨ret_lev HN.out.1.symm HN.out.2.symm, (((hb).alloc (by have := hb.size; simp; omega) _).alloc (by have := hb.size; simp; omega) _).alloc (by have := hb.size; simp; omega) _⟩
  cases e4 : g4 s[0] <;> simp only [e4, cond_true, cond_false] at HN <;> have I4 := Lib.hid e4 <;> clear e4
  case true =>
    go_enter Tryd.func10, Tryd.ntmps10
    go_wp2_with (first | (go_at_call 13; refine HK.mono ?_; rintro e w1 ⟨rfl, hb⟩))
    refine (new_g7 s hp _ _ ?hn _ I7.out).mono ?_
    case hn => simp
    rintro e w2 ⟨rfl, rfl⟩
    go_wp2_with fail
    refine (new_g6 s hp _ _ ?hn _ I6.out).mono ?_
    case hn => simp
    rintro e w3 ⟨rfl, rfl⟩
    go_wp2_with fail
    refine (new_g5 s hp _ _ ?hn _ I5.out).mono ?_
    case hn => simp
    rintro e w4 ⟨rfl, rfl⟩
    go_wp2_with fail
    refine (new_g4 s hp _ _ ?hn _ I4.out).mono ?_
    case hn => simp
    rintro e w5 ⟨rfl, rfl⟩
    go_wp2_with fail
    go_ret2
    exact ⟨ret_lev HN.out.1.symm HN.out.2.symm, ((((hb).alloc (by have := hb.size; simp; omega) _).alloc (by have := hb.size; simp; omega) _).alloc (by have := hb.size; simp; omega) _).alloc (by have := hb.size; simp; omega) _⟩
  cases e3 : g3 s[0] <;> simp only [e3, cond_true, cond_false] at HN <;> have I3 := Lib.hid e3 <;> clear e3
  case true =>
    go_enter Tryd.func10, Tryd.ntmps10
    go_wp2_with (first | (go_at_call 13; refine HK.mono ?_; rintro e w1 ⟨rfl, hb⟩))
    refine (new_g7 s hp _ _ ?hn _ I7.out).mono ?_
    case hn => simp
    rintro e w2 ⟨rfl, rfl⟩
    go_wp2_with fail
    refine (new_g6 s hp _ _ ?hn _ I6.out).mono ?_
    case hn => simp
    rintro e w3 ⟨rfl, rfl⟩
    go_wp2_with fail
    refine (new_g5 s hp _ _ ?hn _ I5.out).mono ?_
    case hn => simp
    rintro e w4 ⟨rfl, rfl⟩
    go_wp2_with fail
    refine (new_g4 s hp _ _ ?hn _ I4.out).mono ?_
    case hn => simp
    rintro e w5 ⟨rfl, rfl⟩
    go_wp2_with fail
    refine (new_g3 s hp _ _ ?hn _ I3.out).mono ?_
    case hn => simp
    rintro e w6 ⟨rfl, rfl⟩
    go_wp2_with fail
    go_ret2
    exact ⟨ret_lev HN.out.1.symm HN.out.2.symm, (((((hb).alloc (by have := hb.size; simp; omega) _).alloc (by have := hb.size; simp; omega) _).alloc (by have := hb.size; simp; omega) _).alloc (by have := hb.size; simp; omega) _).alloc (by have := hb.size; simp; omega) _⟩
  go_enter Tryd.func10, Tryd.ntmps10
  go_wp2_with (first | (go_at_call 13; refine HK.mono ?_; rintro e w1 ⟨rfl, hb⟩))
  refine (new_g7 s hp _ _ ?hn _ I7.out).mono ?_
  case hn => simp
  rintro e w2 ⟨rfl, rfl⟩
  go_wp2_with fail
  refine (new_g6 s hp _ _ ?hn _ I6.out).mono ?_
  case hn => simp
  rintro e w3 ⟨rfl, rfl⟩
  go_wp2_with fail
  refine (new_g5 s hp _ _ ?hn _ I5.out).mono ?_
  case hn => simp
  rintro e w4 ⟨rfl, rfl⟩
  go_wp2_with fail
  refine (new_g4 s hp _ _ ?hn _ I4.out).mono ?_
  case hn => simp
  rintro e w5 ⟨rfl, rfl⟩
  go_wp2_with fail
  refine (new_g3 s hp _ _ ?hn _ I3.out).mono ?_
  case hn => simp
  rintro e w6 ⟨rfl, rfl⟩
  go_wp2_with fail
  go_ret2
  exact ⟨ret_lev HN.out.1.symm HN.out.2.symm, (((((hb).alloc (by have := hb.size; simp; omega) _).alloc (by have := hb.size; simp; omega) _).alloc (by have := hb.size; simp; omega) _).alloc (by have := hb.size; simp; omega) _).alloc (by have := hb.size; simp; omega) _⟩
end Go.Proofs.YthknejgdchpaaaaDoor
