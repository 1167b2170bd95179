/-
  The halving of symMerge: where it ends, the two parts fall into four.
-/
import Derived.Test.YtficgilapbmmpaaSymB
namespace Go.Proofs.Ytficgilapbmmpaa
open Go.RowKit
set_option linter.unusedVariables false

theorem le_last {A1 : List Ed} {x x0 : Ed} (h : InOrder (A1 ++ [x])) (hx : x0 ∈ A1 ++ [x]) : ¬ ltE x x0 := by
  rcases List.mem_append.1 hx with h1 | h1
  · exact (order_split h).2.2 x0 h1 x (by simp)
  · simp at h1; subst h1; exact fun h => (ltE_asym h) h
theorem first_le {B : List Ed} {y y0 : Ed} (h : InOrder (y :: B)) (hy : y0 ∈ y :: B) : ¬ ltE y0 y := by
  rcases List.mem_cons.1 hy with rfl | h1
  · exact fun h => (ltE_asym h) h
  · exact h.1 y0 h1

theorem seek_fin {d P A B Q : List Ed} {a m b N mid s e st : Nat} (hd : d = P ++ (A ++ (B ++ Q))) (ha : a = P.length) (hm : m = P.length + A.length) (hb : b = P.length + A.length + B.length) (hN : N = mid + m) (hmid : mid = (a + b) / 2)
    (hse : (mid < m ∧ s + b = N ∧ e = mid) ∨ (m ≤ mid ∧ s = a ∧ e = m)) (hA : InOrder A) (hB : InOrder B) (hs : s ≤ st) (he : st ≤ e)
    (lo : st = s ∨ ∃ x y, d[st - 1]? = some x ∧ d[N - st]? = some y ∧ ¬ ltE y x) (hi : st = e ∨ ∃ x y, d[st]? = some x ∧ d[N - 1 - st]? = some y ∧ ltE y x) :
    ∃ A1 A2 B1 B2, A = A1 ++ A2 ∧ B = B1 ++ B2 ∧ P.length + A1.length = st ∧ m + B1.length = N - st ∧ (∀ x ∈ A1, ∀ y ∈ B2, ¬ ltE y x) ∧ (∀ y ∈ B1, ∀ x ∈ A2, ltE y x) := by
  obtain ⟨A1, A2, rfl, lA1⟩ : ∃ A1 A2, A = A1 ++ A2 ∧ P.length + A1.length = st := ⟨A.take (st - a), A.drop (st - a), (List.take_append_drop _ _).symm, by rw [List.length_take]; omega⟩
  obtain ⟨B1, B2, rfl, lB1⟩ : ∃ B1 B2, B = B1 ++ B2 ∧ m + B1.length = N - st := ⟨B.take (N - st - m), B.drop (N - st - m), (List.take_append_drop _ _).symm, by rw [List.length_take]; omega⟩
  simp only [List.length_append] at hm hb
  refine ⟨A1, A2, B1, B2, rfl, rfl, lA1, lB1, ?_, ?_⟩
  · intro x0 hx0 y0 hy0
    rcases List.eq_nil_or_concat A1 with rfl | ⟨A', x1, hx1⟩
    · simp at hx0
    rw [List.concat_eq_append] at hx1
    cases B2 with
    | nil => simp at hy0
    | cons y1 B' =>
      subst hx1
      simp only [List.length_append, List.length_cons, List.length_nil] at lA1 hb hm
      rcases lo with h | ⟨x, y, h1, h2, h3⟩
      · rcases hse with ⟨g1, g2, g3⟩ | ⟨g1, g2, g3⟩ <;> omega
      · rw [hd, show P ++ (A' ++ [x1] ++ A2 ++ (B1 ++ y1 :: B' ++ Q)) = (P ++ A') ++ x1 :: (A2 ++ (B1 ++ y1 :: B' ++ Q)) by simp, get_at _ _ _ _ (by simp; omega)] at h1
        rw [hd, show P ++ (A' ++ [x1] ++ A2 ++ (B1 ++ y1 :: B' ++ Q)) = (P ++ (A' ++ [x1] ++ A2 ++ B1)) ++ y1 :: (B' ++ Q) by simp, get_at _ _ _ _ (by simp; omega)] at h2
        injection h1 with h1
        injection h2 with h2
        subst h1 h2
        have o1 := (order_split hA).1
        have o2 := (order_split hB).2.1
        exact nlt_trans (le_last o1 hx0) (nlt_trans h3 (first_le o2 hy0))
  · intro y0 hy0 x0 hx0
    rcases List.eq_nil_or_concat B1 with rfl | ⟨B', y1, hy1⟩
    · simp at hy0
    rw [List.concat_eq_append] at hy1
    cases A2 with
    | nil => simp at hx0
    | cons x1 A' =>
      subst hy1
      simp only [List.length_append, List.length_cons, List.length_nil] at lB1 hb hm
      rcases hi with h | ⟨x, y, h1, h2, h3⟩
      · rcases hse with ⟨g1, g2, g3⟩ | ⟨g1, g2, g3⟩ <;> omega
      · rw [hd, show P ++ (A1 ++ x1 :: A' ++ (B' ++ [y1] ++ B2 ++ Q)) = (P ++ A1) ++ x1 :: (A' ++ (B' ++ [y1] ++ B2 ++ Q)) by simp, get_at _ _ _ _ (by simp; omega)] at h1
        rw [hd, show P ++ (A1 ++ x1 :: A' ++ (B' ++ [y1] ++ B2 ++ Q)) = (P ++ (A1 ++ x1 :: A' ++ B')) ++ y1 :: (B2 ++ Q) by simp, get_at _ _ _ _ (by simp; omega)] at h2
        injection h1 with h1
        injection h2 with h2
        subst h1 h2
        have o1 := (order_split hA).2.1
        have o2 := (order_split hB).1
        exact lt_of_lt_nlt (lt_of_nlt_lt (le_last o2 hy0) h3) (first_le o1 hx0)

/-- What a round of the halving begins with. -/
structure Seek (w wr : World) (g : Nat) (d : List Ed) (N s e st r : Nat) : Prop where
  arr : Arr wr g d
  lo : st = s ∨ ∃ x y, d[st - 1]? = some x ∧ d[N - st]? = some y ∧ ¬ ltE y x
  hi : r = e ∨ ∃ x y, d[r]? = some x ∧ d[N - 1 - r]? = some y ∧ ltE y x
  grown : w.grownBy wr (some g)
end Go.Proofs.Ytficgilapbmmpaa
