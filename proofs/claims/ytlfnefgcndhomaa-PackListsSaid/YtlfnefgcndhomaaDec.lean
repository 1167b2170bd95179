/-
  The number with which bytes begin: the plain facts.
-/
import Derived.Test.YtlfnefgcndhomaaBase
import Derived.Lib.Varint
namespace Go.Proofs.Ytlfnefgcndhomaa
set_option linter.unusedVariables false

/-- May a byte end a number's bytes as byte i of them? -/
def lastB (c : UInt8) (i : Nat) : Bool := if i = 9 then decide (c.toNat = 1) else (decide (c.toNat ≠ 0) || decide (i = 0))
/-- The number and how many bytes, from byte i of it on. -/
def dec : Nat → List UInt8 → Option (Nat × Nat)
  | _, [] => none
  | i, c :: r => if 10 ≤ i then none else if 128 ≤ c.toNat then (dec (i + 1) r).map fun p => (c.toNat % 128 + 128 * p.1, p.2 + 1) else if lastB c i then some (c.toNat, 1) else none

theorem dec_ten (l : List UInt8) (i : Nat) (h : 10 ≤ i) : dec i l = none := by
  cases l with
  | nil => rfl
  | cons c r => simp [dec, h]

theorem u8_of (x : Nat) (h : x < 256) : x.toUInt8.toNat = x := by
  show x % 256 = x; omega

/-- What is put is read. -/
theorem dec_uv : ∀ (f y i : Nat) (r : List UInt8), y < f → i ≤ 9 → y * 128 ^ i < 18446744073709551616 → (y ≠ 0 ∨ i = 0) → dec i (Lib.uvarint y ++ r) = some (y, (Lib.uvarint y).length)
  | 0, y, i, r, h, _, _, _ => absurd h (by omega)
  | f + 1, y, i, r, hf, hi, hy, h0 => by
    by_cases hs : y < 128
    · rw [Lib.uvarint_small hs]
      have hc : y.toUInt8.toNat = y := u8_of y (by omega)
      have hl : lastB y.toUInt8 i = true := by
        unfold lastB
        rw [hc]
        by_cases h9 : i = 9
        · subst h9
          rw [if_pos rfl]
          have : y < 2 := by omega
          simp; omega
        · rw [if_neg h9]; simp; exact h0
      simp only [List.cons_append, List.nil_append, dec, hc]
      rw [if_neg (by omega), if_neg (by omega), hl]
      simp
    · rw [Lib.uvarint_big (by omega)]
      have hc : (y % 128 + 128).toUInt8.toNat = y % 128 + 128 := u8_of _ (by omega)
      have h9 : i ≠ 9 := by
        intro e; subst e
        omega
      have hy2 : y / 128 * 128 ^ (i + 1) < 18446744073709551616 := by
        have h1 : y / 128 * 128 ^ (i + 1) = (y / 128 * 128) * 128 ^ i := by rw [Nat.pow_succ]; rw [Nat.mul_comm (128 ^ i) 128, ← Nat.mul_assoc]
        rw [h1]
        exact Nat.lt_of_le_of_lt (Nat.mul_le_mul_right _ (Nat.div_mul_le_self y 128)) hy
      have ih := dec_uv f (y / 128) (i + 1) r (by omega) (by omega) hy2 (.inl (by omega))
      simp only [List.cons_append, dec, hc]
      rw [if_neg (by omega), if_pos (by omega), ih]
      simp only [Option.map_some, List.length_cons, Option.some.injEq, Prod.mk.injEq, and_true]
      omega
theorem dec_put (n : Nat) (r : List UInt8) (h : n < 18446744073709551616) : dec 0 (Lib.uvarint n ++ r) = some (n, (Lib.uvarint n).length) :=
  dec_uv (n + 1) n 0 r (by omega) (by omega) (by omega) (.inr rfl)

/-- What is read was put. -/
theorem dec_some : ∀ (l : List UInt8) (i v k : Nat), dec i l = some (v, k) → i + k ≤ 10 ∧ 1 ≤ k ∧ k ≤ l.length ∧ v * 128 ^ i < 18446744073709551616 ∧ (v ≠ 0 ∨ i = 0) ∧ l.take k = Lib.uvarint v
  | [], i, v, k, h => by simp [dec] at h
  | c :: r, i, v, k, h => by
    have hc256 := c.toNat_lt
    simp only [dec] at h
    split at h
    · simp at h
    · rename_i hi
      split at h
      · rename_i hc
        rw [Option.map_eq_some_iff] at h
        obtain ⟨⟨v', k'⟩, h1, h2⟩ := h
        simp only [Prod.mk.injEq] at h2
        obtain ⟨rfl, rfl⟩ := h2
        obtain ⟨a1, a2, a3, a4, a5, a6⟩ := dec_some r (i + 1) v' k' h1
        have hv : v' ≠ 0 := by rcases a5 with h | h <;> omega
        have hp : 128 ^ (i + 1) = 128 ^ i * 128 := Nat.pow_succ ..
        have hbig : (c.toNat % 128 + 128 * v') * 128 ^ i < 18446744073709551616 := by
          -- v' * 128^(i+1) < 2^64, all multiples of 128^(i+1) that divides 2^64 or i+1 = 9
          have h64 : ∀ j, j ≤ 9 → ∃ q, 18446744073709551616 = q * 128 ^ j := by
            intro j hj
            have : j = 0 ∨ j = 1 ∨ j = 2 ∨ j = 3 ∨ j = 4 ∨ j = 5 ∨ j = 6 ∨ j = 7 ∨ j = 8 ∨ j = 9 := by omega
            rcases this with rfl | rfl | rfl | rfl | rfl | rfl | rfl | rfl | rfl | rfl
            · exact ⟨18446744073709551616, by decide⟩
            · exact ⟨144115188075855872, by decide⟩
            · exact ⟨1125899906842624, by decide⟩
            · exact ⟨8796093022208, by decide⟩
            · exact ⟨68719476736, by decide⟩
            · exact ⟨536870912, by decide⟩
            · exact ⟨4194304, by decide⟩
            · exact ⟨32768, by decide⟩
            · exact ⟨256, by decide⟩
            · exact ⟨2, by decide⟩
          obtain ⟨q, hq⟩ := h64 (i + 1) (by omega)
          rw [hq] at a4 ⊢
          have hvq : v' < q := Nat.lt_of_mul_lt_mul_right a4
          have h3 : c.toNat % 128 + 128 * v' < q * 128 := by omega
          have h4 : q * 128 ^ (i + 1) = (q * 128) * 128 ^ i := by rw [hp, Nat.mul_comm (128 ^ i) 128, ← Nat.mul_assoc]
          rw [h4]
          exact Nat.mul_lt_mul_of_pos_right h3 (Nat.pow_pos (by omega))
        refine ⟨by omega, by omega, by simp; omega, hbig, .inl (by omega), ?_⟩
        rw [List.take_succ_cons, a6, Lib.uvarint_big (x := c.toNat % 128 + 128 * v') (by omega)]
        have e1 : (c.toNat % 128 + 128 * v') % 128 + 128 = c.toNat := by omega
        have e2 : (c.toNat % 128 + 128 * v') / 128 = v' := by omega
        rw [e1, e2]
        congr 1
        exact (UInt8.toNat_inj.1 (u8_of _ hc256)).symm
      · rename_i hc
        split at h
        · rename_i hl
          simp only [Option.some.injEq, Prod.mk.injEq] at h
          obtain ⟨rfl, rfl⟩ := h
          have hw : c.toNat * 128 ^ i < 18446744073709551616 ∧ (c.toNat ≠ 0 ∨ i = 0) := by
            unfold lastB at hl
            split at hl
            · rename_i h9
              subst h9
              have : c.toNat = 1 := by simpa using hl
              rw [this]
              exact ⟨by decide, .inl (by omega)⟩
            · refine ⟨?_, by simpa using hl⟩
              have h1 : 128 ^ i ≤ 128 ^ 8 := Nat.pow_le_pow_right (by omega) (by omega)
              calc c.toNat * 128 ^ i ≤ 127 * 128 ^ 8 := Nat.mul_le_mul (by omega) h1
                _ < 18446744073709551616 := by decide
          refine ⟨by omega, by omega, by simp, hw.1, hw.2, ?_⟩
          rw [Lib.uvarint_small (by omega)]
          simp only [List.take_succ_cons, List.take_zero, List.cons.injEq, and_true]
          exact (UInt8.toNat_inj.1 (u8_of _ hc256)).symm
        · simp at h
/-- Get's answer: the number, how many bytes, what is wrong. -/
def getV (l : List UInt8) : Nat := match dec 0 l with | some p => p.1 | none => 0
def getK (l : List UInt8) : Nat := match dec 0 l with | some p => p.2 | none => 0
def getE (l : List UInt8) : Int := if l = [] then 2 else match dec 0 l with | some _ => 0 | none => 9
theorem get_some {l : List UInt8} {v k : Nat} (h : dec 0 l = some (v, k)) : getV l = v ∧ getK l = k ∧ getE l = 0 := by
  have hl : l ≠ [] := by intro e; subst e; simp [dec] at h
  simp [getV, getK, getE, h, hl]
theorem get_none {l : List UInt8} (h : dec 0 l = none) (hl : l ≠ []) : getV l = 0 ∧ getK l = 0 ∧ getE l = 9 := by simp [getV, getK, getE, h, hl]
theorem get_nil : getV [] = 0 ∧ getK [] = 0 ∧ getE [] = 2 := by simp [getV, getK, getE, dec]
theorem getE_zero {l : List UInt8} (h : getE l = 0) : dec 0 l = some (getV l, getK l) := by
  unfold getE at h
  split at h
  · simp at h
  · cases hd : dec 0 l with
    | none => rw [hd] at h; simp at h
    | some p => simp [getV, getK, hd]
theorem getV_lt (l : List UInt8) : getV l < 18446744073709551616 := by
  cases hd : dec 0 l with
  | none => simp [getV, hd]
  | some p =>
    have := (dec_some l 0 p.1 p.2 hd).2.2.2.1
    simp [getV, hd]; omega
theorem getK_le (l : List UInt8) : getK l ≤ l.length ∧ getK l ≤ 10 := by
  cases hd : dec 0 l with
  | none => simp [getK, hd]
  | some p =>
    have h := dec_some l 0 p.1 p.2 hd
    simp [getK, hd]; omega

/-- What a round of Get knows: all bytes so far say that more come. -/
structure Getting (l : List UInt8) (k acc : Nat) : Prop where
  small : acc < 128 ^ k
  eq : dec 0 l = (dec k (l.drop k)).map fun p => (acc + 128 ^ k * p.1, k + p.2)
theorem Getting.start (l : List UInt8) : Getting l 0 0 := ⟨by simp, by
  rw [List.drop_zero]
  generalize dec 0 l = o
  cases o <;> simp⟩
theorem Getting.next {l : List UInt8} {k acc : Nat} (h : Getting l k acc) (hk : k < l.length) (h9 : k < 10) (hc : 128 ≤ l[k].toNat) : Getting l (k + 1) (acc + 128 ^ k * (l[k].toNat % 128)) := by
  have hs := h.small
  have hp : 128 ^ (k + 1) = 128 ^ k * 128 := Nat.pow_succ ..
  have h127 : 128 ^ k * (l[k].toNat % 128) ≤ 128 ^ k * 127 := Nat.mul_le_mul_left _ (by omega)
  refine ⟨by omega, ?_⟩
  rw [h.eq, List.drop_eq_getElem_cons hk]
  simp only [dec]
  rw [if_neg (by omega), if_pos hc]
  cases dec (k + 1) (l.drop (k + 1)) with
  | none => simp
  | some p =>
    simp only [Option.map_some, Option.some.injEq, Prod.mk.injEq]
    refine ⟨?_, by omega⟩
    rw [hp, Nat.mul_add, Nat.add_assoc, Nat.mul_assoc]
theorem Getting.yes {l : List UInt8} {k acc : Nat} (h : Getting l k acc) (hk : k < l.length) (h9 : k < 10) (hc : ¬ 128 ≤ l[k].toNat) (hl : lastB l[k] k = true) : dec 0 l = some (acc + 128 ^ k * l[k].toNat, k + 1) := by
  rw [h.eq, List.drop_eq_getElem_cons hk]
  simp only [dec]
  rw [if_neg (by omega), if_neg hc, if_pos hl]
  rfl
theorem Getting.no {l : List UInt8} {k acc : Nat} (h : Getting l k acc) (hk : k < l.length) (h9 : k < 10) (hc : ¬ 128 ≤ l[k].toNat) (hl : lastB l[k] k = false) : dec 0 l = none := by
  rw [h.eq, List.drop_eq_getElem_cons hk]
  simp only [dec]
  rw [if_neg (by omega), if_neg hc, hl]
  rfl
theorem Getting.over {l : List UInt8} {k acc : Nat} (h : Getting l k acc) (hk : ¬ (k < l.length ∧ k < 10)) : dec 0 l = none := by
  rw [h.eq]
  by_cases h1 : k < 10
  · rw [List.drop_of_length_le (by omega)]; rfl
  · rw [dec_ten _ _ (by omega)]; rfl
end Go.Proofs.Ytlfnefgcndhomaa
