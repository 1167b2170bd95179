/-
  What Kept tells, as one list: each stretch and where it begins then; it stands in both texts, in order.
-/
import Derived.Test.YtficgilapbmmpaaKept
namespace Go.Proofs.Ytficgilapbmmpaa
open Go.RowKit
set_option linter.unusedVariables false

structure Str where
  a : Nat
  b : Nat
  t : Nat
instance : Inhabited Str := ⟨⟨0, 0, 0⟩⟩

def keptR (o m : Nat) : List Seg → List Str
  | [] => []
  | x :: r => (if 0 < x.k.length then [⟨o, o + x.k.length, m⟩] else []) ++ keptR (o + x.k.length + x.d.length) (m + x.k.length + x.i.length) r
def lastR (o n m : Nat) : List Str := if o < n then [⟨o, n, m⟩] else []
def pairsOf (R : List Str) : List (Int × Int) := R.map fun x => ((x.a : Int), (x.b : Int))
def placesOf (R : List Str) : List Int := R.map fun x => (x.t : Int)
theorem keptP_eq (xs : List Seg) (o m : Nat) : keptP o xs = pairsOf (keptR o m xs) := by
  induction xs generalizing o m with
  | nil => rfl
  | cons x r ih => simp only [keptP, keptR, pairsOf, List.map_append, ih _ (m + x.k.length + x.i.length)]; split <;> simp
theorem keptB_eq (xs : List Seg) (o m : Nat) : keptB m xs = placesOf (keptR o m xs) := by
  induction xs generalizing o m with
  | nil => rfl
  | cons x r ih => simp only [keptB, keptR, placesOf, List.map_append, ih (o + x.k.length + x.d.length)]; split <;> simp
theorem lastP_eq (o n m : Nat) : lastP o n = pairsOf (lastR o n m) := by unfold lastP lastR; split <;> rfl
theorem lastB_eq (o n m : Nat) : lastB o n m = placesOf (lastR o n m) := by unfold lastB lastR; split <;> rfl

/-- All that Kept tells. -/
def told (xs : List Seg) (n : Nat) : List Str := keptR 0 0 xs ++ lastR (orig xs).length n (made xs).length
theorem told_pairs (xs : List Seg) (n : Nat) : keptP 0 xs ++ lastP (orig xs).length n = pairsOf (told xs n) := by
  rw [keptP_eq xs 0 0, lastP_eq _ _ (made xs).length]; simp [told, pairsOf]
theorem told_places (xs : List Seg) (n : Nat) : keptB 0 xs ++ lastB (orig xs).length n (made xs).length = placesOf (told xs n) := by
  rw [keptB_eq xs 0 0, lastB_eq]; simp [told, placesOf]

def Row (S T : List UInt8) : Nat → Nat → List Str → Prop
  | _, _, [] => True
  | p, q, x :: r => p ≤ x.a ∧ x.a < x.b ∧ x.b ≤ S.length ∧ q ≤ x.t ∧ x.t + (x.b - x.a) ≤ T.length ∧ (S.drop x.a).take (x.b - x.a) = (T.drop x.t).take (x.b - x.a) ∧ Row S T x.b (x.t + (x.b - x.a)) r

theorem row_kept (S T : List UInt8) : ∀ (xs : List Seg) (o m p q : Nat) (rest rest' : List UInt8) (R : List Str), S.drop o = orig xs ++ rest → T.drop m = made xs ++ rest' → o ≤ S.length → m ≤ T.length → p ≤ o → q ≤ m →
    (∀ p' q', p' ≤ o + (orig xs).length → q' ≤ m + (made xs).length → Row S T p' q' R) → Row S T p q (keptR o m xs ++ R)
  | [], o, m, p, q, rest, rest', R, h1, h2, ho, hm, hp, hq, hR => hR p q (by show p ≤ o + 0; omega) (by show q ≤ m + 0; omega)
  | x :: r, o, m, p, q, rest, rest', R, h1, h2, ho, hm, hp, hq, hR => by
    have hlS : (S.drop o).length = (orig (x :: r) ++ rest).length := by rw [h1]
    have hlT : (T.drop m).length = (made (x :: r) ++ rest').length := by rw [h2]
    simp only [orig, made, List.length_append, List.length_drop] at hlS hlT
    have d1 : S.drop (o + x.k.length + x.d.length) = orig r ++ rest := by
      rw [Nat.add_assoc, ← List.drop_drop, h1]
      simp only [orig, List.append_assoc]
      rw [← List.drop_drop, List.drop_left, List.drop_left]
    have d2 : T.drop (m + x.k.length + x.i.length) = made r ++ rest' := by
      rw [Nat.add_assoc, ← List.drop_drop, h2]
      simp only [made, List.append_assoc]
      rw [← List.drop_drop, List.drop_left, List.drop_left]
    have hR' : ∀ p' q', p' ≤ o + x.k.length + x.d.length + (orig r).length → q' ≤ m + x.k.length + x.i.length + (made r).length → Row S T p' q' R := fun p' q' e1 e2 => hR p' q' (by simp only [orig, List.length_append]; omega) (by simp only [made, List.length_append]; omega)
    simp only [keptR]
    by_cases hk : 0 < x.k.length
    · rw [if_pos hk]
      refine ⟨hp, by show o < o + x.k.length; omega, by show o + x.k.length ≤ _; omega, hq, by show m + (o + x.k.length - o) ≤ _; omega, ?_, ?_⟩
      · show (S.drop o).take (o + x.k.length - o) = (T.drop m).take (o + x.k.length - o)
        rw [h1, h2, show o + x.k.length - o = x.k.length from by omega]
        simp only [orig, made, List.append_assoc]
        rw [List.take_left, List.take_left]
      · exact row_kept S T r _ _ _ _ rest rest' R d1 d2 (by omega) (by omega) (by show o + x.k.length ≤ _; omega) (by show m + (o + x.k.length - o) ≤ _; omega) hR'
    · rw [if_neg hk]
      exact row_kept S T r _ _ _ _ rest rest' R d1 d2 (by omega) (by omega) (by omega) (by omega) hR'

theorem row_told (xs : List Seg) (last : List UInt8) : Row (orig xs ++ last) (made xs ++ last) 0 0 (told xs (orig xs ++ last).length) := by
  refine row_kept _ _ xs 0 0 0 0 last last _ (by simp) (by simp) (by omega) (by omega) (by omega) (by omega) fun p q hp hq => ?_
  unfold lastR
  split
  · rename_i h
    simp only [List.length_append] at h
    refine ⟨by show p ≤ (orig xs).length; omega, by show _ < _; simp; omega, by simp, by show q ≤ (made xs).length; omega, by show _ + ((orig xs ++ last).length - (orig xs).length) ≤ _; simp, ?_, trivial⟩
    show ((orig xs ++ last).drop (orig xs).length).take _ = ((made xs ++ last).drop (made xs).length).take _
    rw [List.drop_left, List.drop_left]
  · trivial

def prevB (p : Nat) (R : List Str) : Nat → Nat
  | 0 => p
  | j + 1 => (R.getD j default).b
def prevT (q : Nat) (R : List Str) : Nat → Nat
  | 0 => q
  | j + 1 => (R.getD j default).t + ((R.getD j default).b - (R.getD j default).a)
theorem row_at (S T : List UInt8) : ∀ (R : List Str) (p q : Nat), Row S T p q R → ∀ j, (h : j < R.length) → prevB p R j ≤ R[j].a ∧ R[j].a < R[j].b ∧ R[j].b ≤ S.length ∧ prevT q R j ≤ R[j].t ∧ R[j].t + (R[j].b - R[j].a) ≤ T.length ∧ (S.drop R[j].a).take (R[j].b - R[j].a) = (T.drop R[j].t).take (R[j].b - R[j].a)
  | [], _, _, _, j, h => absurd h (by simp)
  | x :: r, p, q, ⟨h1, h2, h3, h4, h5, h6, h7⟩, 0, _ => ⟨h1, h2, h3, h4, h5, h6⟩
  | x :: r, p, q, ⟨h1, h2, h3, h4, h5, h6, h7⟩, j + 1, h => by
    have hj : j < r.length := by simpa using h
    have hh := row_at S T r _ _ h7 j hj
    cases j with
    | zero => exact hh
    | succ i => exact hh

/-- How many bytes stretches have. -/
def total : List Str → Nat
  | [] => 0
  | x :: r => (x.b - x.a) + total r
theorem total_append (a b : List Str) : total (a ++ b) = total a + total b := by
  induction a with
  | nil => simp [total]
  | cons x r ih => simp [total, ih]; omega
theorem total_take (R : List Str) (j : Nat) (h : j < R.length) : total (R.take (j + 1)) = total (R.take j) + (R[j].b - R[j].a) := by
  rw [List.take_succ_eq_append_getElem h, total_append]; simp [total]
theorem total_kept (xs : List Seg) (o m : Nat) : total (keptR o m xs) + ins xs = (made xs).length := by
  induction xs generalizing o m with
  | nil => rfl
  | cons x r ih =>
    have := ih (o + x.k.length + x.d.length) (m + x.k.length + x.i.length)
    simp only [keptR, total_append, made, List.length_append, ins, List.map_cons, List.sum_cons] at *
    split
    · simp only [total]; omega
    · simp only [total]; omega
theorem total_told (xs : List Seg) (last : List UInt8) : total (told xs (orig xs ++ last).length) + ins xs = (made xs ++ last).length := by
  have := total_kept xs 0 0
  simp only [told, total_append, lastR, List.length_append]
  split
  · simp only [total]; omega
  · simp only [total]; omega
theorem told_length (xs : List Seg) (n : Nat) : (told xs n).length ≤ xs.length + 1 := by
  have h1 := keptP_length xs 0
  rw [keptP_eq xs 0 0] at h1
  simp only [told, List.length_append, lastR]
  simp only [pairsOf, List.length_map] at h1
  split <;> simp <;> omega
end Go.Proofs.Ytficgilapbmmpaa
