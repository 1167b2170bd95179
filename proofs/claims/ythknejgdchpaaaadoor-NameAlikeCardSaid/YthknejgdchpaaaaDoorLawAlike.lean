/-
  NameAlike, walked.
-/
import Derived.Test.YthknejgdchpaaaaDoorOne
import Derived.Test.YthknejgdchpaaaaDoorAlike
namespace Go.Proofs.YthknejgdchpaaaaDoor
open Go.RowKit
set_option linter.unusedVariables false
set_option linter.unusedSimpArgs false

theorem alike_self (a : ByteArray) : alikeB a a = (mayX 1 (kindN a) || mayX 2 (kindN a)) := by
  unfold alikeB sameB
  rw [beq_self_eq_true, beq_self_eq_true, beq_self_eq_true]
  rcases kind_cases a with e | e | e | e | e | e | e <;> rw [e] <;> decide
theorem alike_flip (a b : ByteArray) : alikeB b a = alikeB a b := by
  unfold alikeB sameB
  rw [Bool.beq_comm (a := kindN b), Bool.beq_comm (a := levN b), Bool.beq_comm (a := levR b)]
  by_cases h : kindN a = kindN b
  · rw [h]
  · rw [beq_eq_false_iff_ne.2 h]; rfl
theorem alike_on (a b c : ByteArray) (h1 : alikeB a b = true) (h2 : alikeB b c = true) : alikeB a c = true := by
  unfold alikeB sameB at *
  simp at h1 h2 ⊢
  obtain ⟨e1, k1⟩ := h1
  obtain ⟨e2, k2⟩ := h2
  refine ⟨e1.trans e2, ?_⟩
  rcases k1 with k1 | ⟨k1, l1, r1⟩
  · exact .inl k1
  · rcases k2 with k2 | ⟨k2, l2, r2⟩
    · omega
    · exact .inr ⟨k1, l1.trans l2, r1.trans r2⟩
theorem alike_kind (a b : ByteArray) (h : alikeB a b = true) : kindN a = kindN b := by
  unfold alikeB at h; simp at h; exact h.1

set_option maxHeartbeats 4000000 in
theorem alike_no (a b c : ByteArray) (w : World) (x : Int) (h1 : a.size ≤ 1000) (h2 : b.size ≤ 1000) (h3 : c.size ≤ 1000)
    (HA : Calls Tryd.prog 8 #[] w fun e w' => e = .returned (.bool true) ∧ Below w.heap.size w w')
    (LA : ∀ p : Int, Calls Tryd.prog 19 #[.int .i64 p, .string a] w fun e w' => e = .returned (.bool (mayX p x)) ∧ w = w')
    (AA : Calls Tryd.prog 21 #[.string a, .string a] w fun e w' => e = .returned (.bool (mayX 1 x || mayX 2 x)) ∧ w = w')
    (AB : Calls Tryd.prog 21 #[.string a, .string b] w fun e w' => e = .returned (.bool false) ∧ w = w')
    (BA : Calls Tryd.prog 21 #[.string b, .string a] w fun e w' => e = .returned (.bool false) ∧ w = w') :
    Calls Tryd.prog 6 #[.string a, .string b, .string c] w fun e w' => e = .returned (.bool true) ∧ Below w.heap.size w w' := by
  have M1 := LA 1
  have M2 := LA 2
  generalize mayX 1 x = m1 at M1 AA
  generalize mayX 2 x = m2 at M2 AA
  cases m1
  · cases m2
    all_goals
      simp only [Bool.or_true, Bool.or_false, Bool.or_self] at AA
      go_enter Tryd.func6, Tryd.ntmps6
      go_wp2_with fail
      refine M1.mono ?_
      rintro e w1 ⟨rfl, rfl⟩
      go_wp2_with fail
      refine M2.mono ?_
      rintro e w1 ⟨rfl, rfl⟩
      go_wp2_with fail
      refine AA.mono ?_
      rintro e w1 ⟨rfl, rfl⟩
      go_wp2_with fail
      refine AB.mono ?_
      rintro e w1 ⟨rfl, rfl⟩
      go_wp2_with fail
      refine BA.mono ?_
      rintro e w1 ⟨rfl, rfl⟩
      go_wp2_with fail
      refine AB.mono ?_
      rintro e w1 ⟨rfl, rfl⟩
      go_wp2_with fail
      go_loop [8] (fun i => ∃ k : Nat, 1 ≤ k ∧ k ≤ 7 ∧ i = .int .i64 k) (fun i => 7 - (intOf i).toNat)
      case atStart => exact ⟨1, by omega, by omega, rfl⟩
      case round =>
        obtain ⟨k, hk1, hk, rfl⟩ := hrel
        by_cases hlt : k < 7
        · clear LA M1 M2 AA BA
          go_wp2_with fail
          refine AB.mono ?_
          rintro e w1 ⟨rfl, rfl⟩
          go_wp2_with fail
          go_round
          case rel => exact ⟨k + 1, by omega, by omega, by go_num⟩
          case measure => simp [intOf]; omega
        · clear LA
          have e7 : k = 7 := by omega
          subst e7
          go_wp2_with fail
          refine HA.mono ?_
          rintro e w1 ⟨rfl, hb⟩
          go_wp2_with fail
          go_ret
          exact ⟨rfl, hb⟩
  · simp only [Bool.true_or] at AA
    go_enter Tryd.func6, Tryd.ntmps6
    go_wp2_with fail
    refine M1.mono ?_
    rintro e w1 ⟨rfl, rfl⟩
    go_wp2_with fail
    refine AA.mono ?_
    rintro e w1 ⟨rfl, rfl⟩
    go_wp2_with fail
    refine AB.mono ?_
    rintro e w1 ⟨rfl, rfl⟩
    go_wp2_with fail
    refine BA.mono ?_
    rintro e w1 ⟨rfl, rfl⟩
    go_wp2_with fail
    refine AB.mono ?_
    rintro e w1 ⟨rfl, rfl⟩
    go_wp2_with fail
    go_loop [8] (fun i => ∃ k : Nat, 1 ≤ k ∧ k ≤ 7 ∧ i = .int .i64 k) (fun i => 7 - (intOf i).toNat)
    case atStart => exact ⟨1, by omega, by omega, rfl⟩
    case round =>
      obtain ⟨k, hk1, hk, rfl⟩ := hrel
      by_cases hlt : k < 7
      · clear LA M1 M2 AA BA
        go_wp2_with fail
        refine AB.mono ?_
        rintro e w1 ⟨rfl, rfl⟩
        go_wp2_with fail
        go_round
        case rel => exact ⟨k + 1, by omega, by omega, by go_num⟩
        case measure => simp [intOf]; omega
      · clear LA
        have e7 : k = 7 := by omega
        subst e7
        go_wp2_with fail
        refine HA.mono ?_
        rintro e w1 ⟨rfl, hb⟩
        go_wp2_with fail
        go_ret
        exact ⟨rfl, hb⟩
set_option maxHeartbeats 4000000 in
theorem alike_one (a b c : ByteArray) (w : World) (x : Int) (h1 : a.size ≤ 1000) (h2 : b.size ≤ 1000) (h3 : c.size ≤ 1000)
    (HA : Calls Tryd.prog 8 #[] w fun e w' => e = .returned (.bool true) ∧ Below w.heap.size w w')
    (LA : ∀ p : Int, Calls Tryd.prog 19 #[.int .i64 p, .string a] w fun e w' => e = .returned (.bool (mayX p x)) ∧ w = w')
    (LB : ∀ p : Int, Calls Tryd.prog 19 #[.int .i64 p, .string b] w fun e w' => e = .returned (.bool (mayX p x)) ∧ w = w')
    (AA : Calls Tryd.prog 21 #[.string a, .string a] w fun e w' => e = .returned (.bool (mayX 1 x || mayX 2 x)) ∧ w = w')
    (AB : Calls Tryd.prog 21 #[.string a, .string b] w fun e w' => e = .returned (.bool true) ∧ w = w')
    (BA : Calls Tryd.prog 21 #[.string b, .string a] w fun e w' => e = .returned (.bool true) ∧ w = w')
    (BC : Calls Tryd.prog 21 #[.string b, .string c] w fun e w' => e = .returned (.bool false) ∧ w = w') :
    Calls Tryd.prog 6 #[.string a, .string b, .string c] w fun e w' => e = .returned (.bool true) ∧ Below w.heap.size w w' := by
  have M1 := LA 1
  have M2 := LA 2
  generalize mayX 1 x = m1 at M1 AA
  generalize mayX 2 x = m2 at M2 AA
  cases m1
  · cases m2
    all_goals
      simp only [Bool.or_true, Bool.or_false, Bool.or_self] at AA
      go_enter Tryd.func6, Tryd.ntmps6
      go_wp2_with fail
      refine M1.mono ?_
      rintro e w1 ⟨rfl, rfl⟩
      go_wp2_with fail
      refine M2.mono ?_
      rintro e w1 ⟨rfl, rfl⟩
      go_wp2_with fail
      refine AA.mono ?_
      rintro e w1 ⟨rfl, rfl⟩
      go_wp2_with fail
      refine AB.mono ?_
      rintro e w1 ⟨rfl, rfl⟩
      go_wp2_with fail
      refine BA.mono ?_
      rintro e w1 ⟨rfl, rfl⟩
      go_wp2_with fail
      refine AB.mono ?_
      rintro e w1 ⟨rfl, rfl⟩
      go_wp2_with fail
      refine BC.mono ?_
      rintro e w1 ⟨rfl, rfl⟩
      go_wp2_with fail
      go_loop [8] (fun i => ∃ k : Nat, 1 ≤ k ∧ k ≤ 7 ∧ i = .int .i64 k) (fun i => 7 - (intOf i).toNat)
      case atStart => exact ⟨1, by omega, by omega, rfl⟩
      case round =>
        obtain ⟨k, hk1, hk, rfl⟩ := hrel
        by_cases hlt : k < 7
        · have PA := LA (k : Int)
          have PB := LB (k : Int)
          generalize mayX (k : Int) x = v at *
          clear LA LB M1 M2 AA BA BC
          have hv : (v != v) = false := by cases v <;> rfl
          go_wp2_with fail
          refine AB.mono ?_
          rintro e w1 ⟨rfl, rfl⟩
          go_wp2_with fail
          refine PA.mono ?_
          rintro e w1 ⟨rfl, rfl⟩
          go_wp2_with fail
          refine PB.mono ?_
          rintro e w1 ⟨rfl, rfl⟩
          go_wp2_with fail
          go_round
          case rel => exact ⟨k + 1, by omega, by omega, by go_num⟩
          case measure => simp [intOf]; omega
        · clear LA LB
          have e7 : k = 7 := by omega
          subst e7
          go_wp2_with fail
          refine HA.mono ?_
          rintro e w1 ⟨rfl, hb⟩
          go_wp2_with fail
          go_ret
          exact ⟨rfl, hb⟩
  · simp only [Bool.true_or] at AA
    go_enter Tryd.func6, Tryd.ntmps6
    go_wp2_with fail
    refine M1.mono ?_
    rintro e w1 ⟨rfl, rfl⟩
    go_wp2_with fail
    refine AA.mono ?_
    rintro e w1 ⟨rfl, rfl⟩
    go_wp2_with fail
    refine AB.mono ?_
    rintro e w1 ⟨rfl, rfl⟩
    go_wp2_with fail
    refine BA.mono ?_
    rintro e w1 ⟨rfl, rfl⟩
    go_wp2_with fail
    refine AB.mono ?_
    rintro e w1 ⟨rfl, rfl⟩
    go_wp2_with fail
    refine BC.mono ?_
    rintro e w1 ⟨rfl, rfl⟩
    go_wp2_with fail
    go_loop [8] (fun i => ∃ k : Nat, 1 ≤ k ∧ k ≤ 7 ∧ i = .int .i64 k) (fun i => 7 - (intOf i).toNat)
    case atStart => exact ⟨1, by omega, by omega, rfl⟩
    case round =>
      obtain ⟨k, hk1, hk, rfl⟩ := hrel
      by_cases hlt : k < 7
      · have PA := LA (k : Int)
        have PB := LB (k : Int)
        generalize mayX (k : Int) x = v at *
        clear LA LB M1 M2 AA BA BC
        have hv : (v != v) = false := by cases v <;> rfl
        go_wp2_with fail
        refine AB.mono ?_
        rintro e w1 ⟨rfl, rfl⟩
        go_wp2_with fail
        refine PA.mono ?_
        rintro e w1 ⟨rfl, rfl⟩
        go_wp2_with fail
        refine PB.mono ?_
        rintro e w1 ⟨rfl, rfl⟩
        go_wp2_with fail
        go_round
        case rel => exact ⟨k + 1, by omega, by omega, by go_num⟩
        case measure => simp [intOf]; omega
      · clear LA LB
        have e7 : k = 7 := by omega
        subst e7
        go_wp2_with fail
        refine HA.mono ?_
        rintro e w1 ⟨rfl, hb⟩
        go_wp2_with fail
        go_ret
        exact ⟨rfl, hb⟩
set_option maxHeartbeats 4000000 in
theorem alike_two (a b c : ByteArray) (w : World) (x : Int) (h1 : a.size ≤ 1000) (h2 : b.size ≤ 1000) (h3 : c.size ≤ 1000)
    (HA : Calls Tryd.prog 8 #[] w fun e w' => e = .returned (.bool true) ∧ Below w.heap.size w w')
    (LA : ∀ p : Int, Calls Tryd.prog 19 #[.int .i64 p, .string a] w fun e w' => e = .returned (.bool (mayX p x)) ∧ w = w')
    (LB : ∀ p : Int, Calls Tryd.prog 19 #[.int .i64 p, .string b] w fun e w' => e = .returned (.bool (mayX p x)) ∧ w = w')
    (AA : Calls Tryd.prog 21 #[.string a, .string a] w fun e w' => e = .returned (.bool (mayX 1 x || mayX 2 x)) ∧ w = w')
    (AB : Calls Tryd.prog 21 #[.string a, .string b] w fun e w' => e = .returned (.bool true) ∧ w = w')
    (BA : Calls Tryd.prog 21 #[.string b, .string a] w fun e w' => e = .returned (.bool true) ∧ w = w')
    (BC : Calls Tryd.prog 21 #[.string b, .string c] w fun e w' => e = .returned (.bool true) ∧ w = w')
    (AC : Calls Tryd.prog 21 #[.string a, .string c] w fun e w' => e = .returned (.bool true) ∧ w = w') :
    Calls Tryd.prog 6 #[.string a, .string b, .string c] w fun e w' => e = .returned (.bool true) ∧ Below w.heap.size w w' := by
  have M1 := LA 1
  have M2 := LA 2
  generalize mayX 1 x = m1 at M1 AA
  generalize mayX 2 x = m2 at M2 AA
  cases m1
  · cases m2
    all_goals
      simp only [Bool.or_true, Bool.or_false, Bool.or_self] at AA
      go_enter Tryd.func6, Tryd.ntmps6
      go_wp2_with fail
      refine M1.mono ?_
      rintro e w1 ⟨rfl, rfl⟩
      go_wp2_with fail
      refine M2.mono ?_
      rintro e w1 ⟨rfl, rfl⟩
      go_wp2_with fail
      refine AA.mono ?_
      rintro e w1 ⟨rfl, rfl⟩
      go_wp2_with fail
      refine AB.mono ?_
      rintro e w1 ⟨rfl, rfl⟩
      go_wp2_with fail
      refine BA.mono ?_
      rintro e w1 ⟨rfl, rfl⟩
      go_wp2_with fail
      refine AB.mono ?_
      rintro e w1 ⟨rfl, rfl⟩
      go_wp2_with fail
      refine BC.mono ?_
      rintro e w1 ⟨rfl, rfl⟩
      go_wp2_with fail
      refine AC.mono ?_
      rintro e w1 ⟨rfl, rfl⟩
      go_wp2_with fail
      go_loop [8] (fun i => ∃ k : Nat, 1 ≤ k ∧ k ≤ 7 ∧ i = .int .i64 k) (fun i => 7 - (intOf i).toNat)
      case atStart => exact ⟨1, by omega, by omega, rfl⟩
      case round =>
        obtain ⟨k, hk1, hk, rfl⟩ := hrel
        by_cases hlt : k < 7
        · have PA := LA (k : Int)
          have PB := LB (k : Int)
          generalize mayX (k : Int) x = v at *
          clear LA LB M1 M2 AA BA BC
          have hv : (v != v) = false := by cases v <;> rfl
          go_wp2_with fail
          refine AB.mono ?_
          rintro e w1 ⟨rfl, rfl⟩
          go_wp2_with fail
          refine PA.mono ?_
          rintro e w1 ⟨rfl, rfl⟩
          go_wp2_with fail
          refine PB.mono ?_
          rintro e w1 ⟨rfl, rfl⟩
          go_wp2_with fail
          go_round
          case rel => exact ⟨k + 1, by omega, by omega, by go_num⟩
          case measure => simp [intOf]; omega
        · clear LA LB
          have e7 : k = 7 := by omega
          subst e7
          go_wp2_with fail
          refine HA.mono ?_
          rintro e w1 ⟨rfl, hb⟩
          go_wp2_with fail
          go_ret
          exact ⟨rfl, hb⟩
  · simp only [Bool.true_or] at AA
    go_enter Tryd.func6, Tryd.ntmps6
    go_wp2_with fail
    refine M1.mono ?_
    rintro e w1 ⟨rfl, rfl⟩
    go_wp2_with fail
    refine AA.mono ?_
    rintro e w1 ⟨rfl, rfl⟩
    go_wp2_with fail
    refine AB.mono ?_
    rintro e w1 ⟨rfl, rfl⟩
    go_wp2_with fail
    refine BA.mono ?_
    rintro e w1 ⟨rfl, rfl⟩
    go_wp2_with fail
    refine AB.mono ?_
    rintro e w1 ⟨rfl, rfl⟩
    go_wp2_with fail
    refine BC.mono ?_
    rintro e w1 ⟨rfl, rfl⟩
    go_wp2_with fail
    refine AC.mono ?_
    rintro e w1 ⟨rfl, rfl⟩
    go_wp2_with fail
    go_loop [8] (fun i => ∃ k : Nat, 1 ≤ k ∧ k ≤ 7 ∧ i = .int .i64 k) (fun i => 7 - (intOf i).toNat)
    case atStart => exact ⟨1, by omega, by omega, rfl⟩
    case round =>
      obtain ⟨k, hk1, hk, rfl⟩ := hrel
      by_cases hlt : k < 7
      · have PA := LA (k : Int)
        have PB := LB (k : Int)
        generalize mayX (k : Int) x = v at *
        clear LA LB M1 M2 AA BA BC
        have hv : (v != v) = false := by cases v <;> rfl
        go_wp2_with fail
        refine AB.mono ?_
        rintro e w1 ⟨rfl, rfl⟩
        go_wp2_with fail
        refine PA.mono ?_
        rintro e w1 ⟨rfl, rfl⟩
        go_wp2_with fail
        refine PB.mono ?_
        rintro e w1 ⟨rfl, rfl⟩
        go_wp2_with fail
        go_round
        case rel => exact ⟨k + 1, by omega, by omega, by go_num⟩
        case measure => simp [intOf]; omega
      · clear LA LB
        have e7 : k = 7 := by omega
        subst e7
        go_wp2_with fail
        refine HA.mono ?_
        rintro e w1 ⟨rfl, hb⟩
        go_wp2_with fail
        go_ret
        exact ⟨rfl, hb⟩
set_option maxHeartbeats 2000000 in
theorem nameAlike_walk (a b c : ByteArray) (w : World) (ha : a.size ≤ 9223372036854775807) (hb : b.size ≤ 9223372036854775807) (hc : c.size ≤ 9223372036854775807) (hk : Kw w) :
    Calls Tryd.prog 6 #[.string a, .string b, .string c] w fun e w' => e = .returned (.bool true) ∧ Below w.heap.size w w' := by
  have HA := alive_any w hk
  by_cases h : 1000 < a.size
  · clear hk
    go_enter Tryd.func6, Tryd.ntmps6
    go_wp2_with (go_at_call 8; refine HA.mono ?_; rintro e w1 ⟨rfl, hb⟩)
    go_ret
    exact ⟨rfl, hb⟩
  by_cases h' : 1000 < b.size
  · clear hk
    go_enter Tryd.func6, Tryd.ntmps6
    go_wp2_with (go_at_call 8; refine HA.mono ?_; rintro e w1 ⟨rfl, hb⟩)
    go_ret
    exact ⟨rfl, hb⟩
  by_cases h'' : 1000 < c.size
  · clear hk
    go_enter Tryd.func6, Tryd.ntmps6
    go_wp2_with (go_at_call 8; refine HA.mono ?_; rintro e w1 ⟨rfl, hb⟩)
    go_ret
    exact ⟨rfl, hb⟩
  have LA : ∀ p : Int, Calls Tryd.prog 19 #[.int .i64 p, .string a] w fun e w' => e = .returned (.bool (mayX p (kindN a))) ∧ w = w' := fun p => may_any p a w hk ha
  have LB : ∀ p : Int, Calls Tryd.prog 19 #[.int .i64 p, .string b] w fun e w' => e = .returned (.bool (mayX p (kindN b))) ∧ w = w' := fun p => may_any p b w hk hb
  have AA := alike_any a a w hk ha ha
  have AB := alike_any a b w hk ha hb
  have BA := alike_any b a w hk hb ha
  have BC := alike_any b c w hk hb hc
  have AC := alike_any a c w hk ha hc
  rw [alike_self a] at AA
  rw [alike_flip a b] at BA
  cases h1 : alikeB a b
  · rw [h1] at AB BA
    exact alike_no a b c w _ (by omega) (by omega) (by omega) HA LA AA AB BA
  · rw [h1] at AB BA
    rw [← alike_kind a b h1] at LB
    cases h2 : alikeB b c
    · rw [h2] at BC
      exact alike_one a b c w _ (by omega) (by omega) (by omega) HA LA LB AA AB BA BC
    · rw [h2] at BC
      rw [alike_on a b c h1 h2] at AC
      exact alike_two a b c w _ (by omega) (by omega) (by omega) HA LA LB AA AB BA BC AC
end Go.Proofs.YthknejgdchpaaaaDoor
