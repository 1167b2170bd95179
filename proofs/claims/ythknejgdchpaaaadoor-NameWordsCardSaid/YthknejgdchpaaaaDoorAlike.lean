/-
  Alike, Space, and the document's.
-/
import Derived.Test.YthknejgdchpaaaaDoorRefLevel
namespace Go.Proofs.YthknejgdchpaaaaDoor
open Go.RowKit
set_option linter.unusedVariables false
set_option linter.unusedSimpArgs false

def sameB (a b : ByteArray) : Bool := (levN a == levN b) && (levR a == levR b)
def alikeB (a b : ByteArray) : Bool := (kindN a == kindN b) && (kindN a == 6 || kindN a == 7 || (kindN a == 9 && sameB a b))
theorem same_any (a b : ByteArray) (w : World) (hk : Kw w) (ha : a.size ≤ 9223372036854775807) (hb : b.size ≤ 9223372036854775807) :
    Calls Tryd.prog 36 #[.string a, .string b] w fun e w' => e = .returned (.bool (sameB a b)) ∧ w = w' := by
  have H1 := level_any a w hk ha
  have H2 := level_any b w hk hb
  have HM : Hid (sameB a b = ((levN a == levN b) && (levR a == levR b))) := Lib.hid rfl
  clear hk
  generalize levN a = n at *
  generalize levR a = p at *
  generalize levN b = m at *
  generalize levR b = q at *
  cases hq : (n == m)
  all_goals
    rw [hq] at HM
    go_enter Tryd.func36, Tryd.ntmps36
    go_wp2_with fail
    refine H1.mono ?_
    rintro e w1 ⟨rfl, rfl⟩
    go_wp2_with fail
    refine H2.mono ?_
    rintro e w1 ⟨rfl, rfl⟩
    go_wp2_with fail
    go_ret
    exact ⟨ret_bool (by rw [HM.out]; simp), rfl⟩

set_option maxHeartbeats 1000000 in
theorem alike_any (a b : ByteArray) (w : World) (hk : Kw w) (ha : a.size ≤ 9223372036854775807) (hb : b.size ≤ 9223372036854775807) :
    Calls Tryd.prog 21 #[.string a, .string b] w fun e w' => e = .returned (.bool (alikeB a b)) ∧ w = w' := by
  have H1 := kind_any a w hk ha
  have H2 := kind_any b w hk hb
  have H3 := same_any a b w hk ha hb
  have HM : Hid (alikeB a b = ((kindN a == kindN b) && (kindN a == 6 || kindN a == 7 || (kindN a == 9 && sameB a b)))) := Lib.hid rfl
  clear hk
  generalize kindN a = x at *
  generalize kindN b = y at *
  generalize sameB a b = z at *
  have go : ∀ r : Bool, alikeB a b = r → (∀ (P : Prop), P → P) → True := fun _ _ _ => trivial
  clear go
  cases hq : (x == y)
  case false =>
    rw [hq, Bool.false_and] at HM
    go_enter Tryd.func21, Tryd.ntmps21
    go_wp2_with fail
    refine H1.mono ?_
    rintro e w1 ⟨rfl, rfl⟩
    go_wp2_with fail
    refine H2.mono ?_
    rintro e w1 ⟨rfl, rfl⟩
    go_wp2_with fail
    go_ret
    exact ⟨ret_bool HM.out.symm, rfl⟩
  rw [hq, Bool.true_and] at HM
  have hxy : x = y := by simpa using hq
  subst hxy
  clear hq
  cases h6 : (x == 6)
  case true =>
    rw [h6, Bool.true_or, Bool.true_or] at HM
    go_enter Tryd.func21, Tryd.ntmps21
    go_wp2_with fail
    refine H1.mono ?_
    rintro e w1 ⟨rfl, rfl⟩
    go_wp2_with fail
    refine H2.mono ?_
    rintro e w1 ⟨rfl, rfl⟩
    go_wp2_with fail
    go_ret
    exact ⟨ret_bool HM.out.symm, rfl⟩
  cases h7 : (x == 7)
  case true =>
    rw [h6, h7, Bool.or_true, Bool.true_or] at HM
    go_enter Tryd.func21, Tryd.ntmps21
    go_wp2_with fail
    refine H1.mono ?_
    rintro e w1 ⟨rfl, rfl⟩
    go_wp2_with fail
    refine H2.mono ?_
    rintro e w1 ⟨rfl, rfl⟩
    go_wp2_with fail
    go_ret
    exact ⟨ret_bool HM.out.symm, rfl⟩
  cases h9 : (x == 9)
  case false =>
    rw [h6, h7, h9, Bool.or_false, Bool.false_and, Bool.or_false] at HM
    go_enter Tryd.func21, Tryd.ntmps21
    go_wp2_with fail
    refine H1.mono ?_
    rintro e w1 ⟨rfl, rfl⟩
    go_wp2_with fail
    refine H2.mono ?_
    rintro e w1 ⟨rfl, rfl⟩
    go_wp2_with fail
    go_ret
    exact ⟨ret_bool HM.out.symm, rfl⟩
  rw [h6, h7, h9, Bool.or_false, Bool.true_and, Bool.false_or] at HM
  go_enter Tryd.func21, Tryd.ntmps21
  go_wp2_with fail
  refine H1.mono ?_
  rintro e w1 ⟨rfl, rfl⟩
  go_wp2_with fail
  refine H2.mono ?_
  rintro e w1 ⟨rfl, rfl⟩
  go_wp2_with fail
  refine H3.mono ?_
  rintro e w1 ⟨rfl, rfl⟩
  go_wp2_with fail
  go_ret
  exact ⟨ret_bool HM.out.symm, rfl⟩
theorem lev_none (s : ByteArray) (h : kindN s ≠ 9) : levN s = 0 ∧ levR s = false := by
  unfold levN levR; rw [beq_eq_false_iff_ne.2 h]; exact ⟨rfl, rfl⟩
theorem alike_ref (a b : ByteArray) : alikeB a b = ((kindN a == kindN b) && (kindN a == 6 || kindN a == 7 || kindN a == 9) && (levN a == levN b) && (levR a == levR b)) := by
  unfold alikeB sameB
  by_cases h : kindN a = kindN b
  · rw [h]
    by_cases h9 : kindN b = 9
    · rw [h9]; simp
    · have e1 := lev_none b h9
      have e2 := lev_none a (by omega)
      rw [e1.1, e1.2, e2.1, e2.2]
      simp
  · rw [beq_eq_false_iff_ne.2 h]; simp

set_option maxHeartbeats 1000000 in
theorem refAlike_any (a b : ByteArray) (w : World) (ha : a.size ≤ 9223372036854775807) (hb : b.size ≤ 9223372036854775807) :
    Calls Tryd.prog 22 #[.string a, .string b] w fun e w' => e = .returned (.bool (alikeB a b)) ∧ Below w.heap.size w w' := by
  have H1 := fun w => refKind_any a w ha
  have H2 := fun w => refLevel_any a w ha
  have H3 := fun w => refLevel_any b w hb
  have H4 := fun w => refKind_any b w hb
  have HM := Lib.hid (alike_ref a b)
  generalize kindN a = x at *
  generalize kindN b = y at *
  generalize levN a = n at *
  generalize levR a = p at *
  generalize levN b = m at *
  generalize levR b = q at *
  cases h1 : (x == y) <;> cases h2 : (x == 6) <;> cases h3 : (x == 7) <;> cases h4 : (x == 9) <;> cases h5 : (n == m)
  all_goals
    rw [h1, h2, h3, h4, h5] at HM
    go_enter Tryd.func22, Tryd.ntmps22
    go_wp2_with fail
    refine (H1 _).mono ?_
    rintro e w1 ⟨rfl, b1⟩
    go_wp2_with fail
    refine (H2 _).mono ?_
    rintro e w2 ⟨rfl, b2⟩
    go_wp2_with fail
    refine (H3 _).mono ?_
    rintro e w3 ⟨rfl, b3⟩
    go_wp2_with fail
    refine (H4 _).mono ?_
    rintro e w4 ⟨rfl, b4⟩
    go_wp2_with fail
    go_ret
    exact ⟨ret_bool (by rw [HM.out]; simp), ((b1.trans (b2.mono b1.size)).trans (b3.mono (Nat.le_trans b1.size b2.size))).trans (b4.mono (Nat.le_trans b1.size (Nat.le_trans b2.size b3.size)))⟩
end Go.Proofs.YthknejgdchpaaaaDoor
