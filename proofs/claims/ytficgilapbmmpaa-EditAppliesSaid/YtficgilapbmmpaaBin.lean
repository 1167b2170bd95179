/-
  Halving: a row in order is parted where a test that holds at its front ceases to hold.
-/
import Derived.Test.YtficgilapbmmpaaInsert
namespace Go.Proofs.Ytficgilapbmmpaa
open Go.RowKit
set_option linter.unusedVariables false

structure Bin (p : Ed → Prop) (B : List Ed) (m i j : Nat) (B1 Bm B2 : List Ed) : Prop where
  eq : B = B1 ++ (Bm ++ B2)
  l1 : m + B1.length = i
  l2 : i + Bm.length = j
  ord : InOrder B
  mono : ∀ y z, ¬ ltE z y → p z → p y
  lo : ∀ y ∈ B1, p y
  hi : ∀ y ∈ B2, ¬ p y
theorem Bin.half {p : Ed → Prop} {B : List Ed} {m i j : Nat} {B1 Bm B2 : List Ed} (h : Bin p B m i j B1 Bm B2) (hl : i < j) : ∃ C z D, Bm = C ++ z :: D ∧ i + C.length = (i + j) / 2 := by
  have h2 := h.l2
  have hk : (i + j) / 2 - i < Bm.length := by omega
  refine ⟨Bm.take ((i + j) / 2 - i), Bm[(i + j) / 2 - i], Bm.drop ((i + j) / 2 - i + 1), ?_, ?_⟩
  · rw [← List.drop_eq_getElem_cons hk, List.take_append_drop]
  · rw [List.length_take]; omega
theorem Bin.up {p : Ed → Prop} {B : List Ed} {m i j c : Nat} {B1 C : List Ed} {z : Ed} {D B2 : List Ed} (h : Bin p B m i j B1 (C ++ z :: D) B2) (hc : i + C.length = c) (hz : p z) : Bin p B m (c + 1) j (B1 ++ (C ++ [z])) D B2 := by
  refine ⟨by rw [h.eq]; simp, by have := h.l1; simp; omega, by have := h.l2; simp at this; omega, h.ord, h.mono, ?_, h.hi⟩
  intro y hy
  simp only [List.mem_append, List.mem_singleton] at hy
  rcases hy with hy | hy | rfl
  · exact h.lo y hy
  · have ho := h.ord
    rw [h.eq, show B1 ++ (C ++ z :: D ++ B2) = (B1 ++ C) ++ (z :: D ++ B2) by simp] at ho
    exact h.mono y z ((order_split ho).2.2 y (by simp [hy]) z (by simp)) hz
  · exact hz
theorem Bin.down {p : Ed → Prop} {B : List Ed} {m i j c : Nat} {B1 C : List Ed} {z : Ed} {D B2 : List Ed} (h : Bin p B m i j B1 (C ++ z :: D) B2) (hc : i + C.length = c) (hz : ¬ p z) : Bin p B m i c B1 C (z :: (D ++ B2)) := by
  refine ⟨by rw [h.eq]; simp, h.l1, hc, h.ord, h.mono, h.lo, ?_⟩
  intro y hy
  simp only [List.mem_append, List.mem_cons] at hy
  rcases hy with rfl | hy | hy
  · exact hz
  · have ho := h.ord
    rw [h.eq, show B1 ++ (C ++ z :: D ++ B2) = (B1 ++ C ++ [z]) ++ (D ++ B2) by simp] at ho
    exact fun hp => hz (h.mono z y ((order_split ho).2.2 z (by simp) y (by simp [hy])) hp)
  · exact h.hi y hy
theorem Bin.fin {p : Ed → Prop} {B : List Ed} {m i j : Nat} {B1 Bm B2 : List Ed} (h : Bin p B m i j B1 Bm B2) (hl : j ≤ i) : B = B1 ++ B2 ∧ m + B1.length = i := by
  have : Bm = [] := List.eq_nil_of_length_eq_zero (by have := h.l2; omega)
  subst this
  exact ⟨h.eq, h.l1⟩
theorem Bin.start {p : Ed → Prop} {B : List Ed} (m : Nat) (ho : InOrder B) (hp : ∀ y z, ¬ ltE z y → p z → p y) : Bin p B m m (m + B.length) [] B [] :=
  ⟨by simp, rfl, rfl, ho, hp, fun y h => absurd h (by simp), fun y h => absurd h (by simp)⟩

/-- One edit, and behind it those in order. -/
theorem ssort_front {x : Ed} {B1 B2 : List Ed} (ho : InOrder (B1 ++ B2)) (h1 : ∀ y ∈ B1, ltE y x) (h2 : ∀ y ∈ B2, ¬ ltE y x) : ssort (x :: (B1 ++ B2)) = B1 ++ (x :: B2) := by
  have hb := ssort_blocks B1 [x] [] B2 (fun y hy z hz => by simp at hz; subst hz; exact h1 y hy)
  simp only [List.nil_append, List.cons_append] at hb
  rw [hb]
  obtain ⟨o1, o2, o3⟩ := order_split ho
  refine ssort_fix (order_append o1 ⟨h2, o2⟩ ?_)
  intro y hy z hz
  rcases List.mem_cons.1 hz with rfl | hz
  · exact nlt_of_lt (h1 y hy)
  · exact o3 y hy z hz
/-- Those in order, and behind them one. -/
theorem ssort_back {x : Ed} {A1 A2 : List Ed} (ho : InOrder (A1 ++ A2)) (h1 : ∀ y ∈ A1, ¬ ltE x y) (h2 : ∀ y ∈ A2, ltE x y) : ssort ((A1 ++ A2) ++ [x]) = A1 ++ (x :: A2) := by
  have hb := ssort_move A2 A1 [] h2
  simp only [List.append_nil] at hb
  rw [List.append_assoc, hb]
  obtain ⟨o1, o2, o3⟩ := order_split ho
  refine ssort_fix (order_append o1 ⟨fun y hy => nlt_of_lt (h2 y hy), o2⟩ ?_)
  intro y hy z hz
  rcases List.mem_cons.1 hz with rfl | hz
  · exact h1 y hy
  · exact o3 y hy z hz
end Go.Proofs.Ytficgilapbmmpaa
