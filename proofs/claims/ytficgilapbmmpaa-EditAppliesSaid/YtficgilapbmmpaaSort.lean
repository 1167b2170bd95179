/-
  Edits in order: the order by At, then by End, those that are alike in their order. Each exchange of two neighbours, of which the second one stands strictly ahead, leaves it.
-/
import Derived.Test.YtficgilapbmmpaaBase
namespace Go.Proofs.Ytficgilapbmmpaa
set_option linter.unusedVariables false

def ltE (x y : Ed) : Prop := x.a < y.a ∨ (x.a = y.a ∧ x.e < y.e)
instance (x y : Ed) : Decidable (ltE x y) := by unfold ltE; exact inferInstance
theorem ltE_asym {x y : Ed} (h : ltE x y) : ¬ ltE y x := by unfold ltE at *; omega
theorem ltE_trans {x y z : Ed} (h : ltE x y) (g : ltE y z) : ltE x z := by unfold ltE at *; omega
theorem nlt_trans {x y z : Ed} (h : ¬ ltE y x) (g : ¬ ltE z y) : ¬ ltE z x := by unfold ltE at *; omega
theorem lt_of_lt_nlt {x y z : Ed} (h : ltE x y) (g : ¬ ltE z y) : ltE x z := by unfold ltE at *; omega
theorem lt_of_nlt_lt {x y z : Ed} (h : ¬ ltE y x) (g : ltE y z) : ltE x z := by unfold ltE at *; omega
theorem nlt_of_lt {x y : Ed} (h : ltE x y) : ¬ ltE y x := ltE_asym h

def ins1 (x : Ed) : List Ed → List Ed
  | [] => [x]
  | y :: r => if ltE y x then y :: ins1 x r else x :: y :: r
def ssort : List Ed → List Ed
  | [] => []
  | x :: r => ins1 x (ssort r)

theorem ins1_comm {x y : Ed} (h : ltE y x) : ∀ S : List Ed, ins1 x (ins1 y S) = ins1 y (ins1 x S)
  | [] => by simp only [ins1]; rw [if_pos h, if_neg (ltE_asym h)]
  | z :: r => by
    by_cases hy : ltE z y
    · have hx : ltE z x := ltE_trans hy h
      simp only [ins1]
      rw [if_pos hy, if_pos hx]
      simp only [ins1]
      rw [if_pos hx, if_pos hy, ins1_comm h r]
    · by_cases hx : ltE z x
      · simp only [ins1]
        rw [if_neg hy, if_pos hx]
        simp only [ins1]
        rw [if_pos h, if_pos hx, if_neg hy]
      · simp only [ins1]
        rw [if_neg hy, if_neg hx]
        simp only [ins1]
        rw [if_pos h, if_neg hx, if_neg (ltE_asym h)]
theorem ssort_swap {x y : Ed} (h : ltE y x) (P Q : List Ed) : ssort (P ++ x :: y :: Q) = ssort (P ++ y :: x :: Q) := by
  induction P with
  | nil => exact ins1_comm h (ssort Q)
  | cons z r ih => simp only [List.cons_append, ssort, ih]
theorem ssort_move {y : Ed} : ∀ (A P Q : List Ed), (∀ x ∈ A, ltE y x) → ssort (P ++ (A ++ y :: Q)) = ssort (P ++ y :: (A ++ Q))
  | [], P, Q, _ => rfl
  | x :: r, P, Q, h => by
    have h1 := ssort_move r (P ++ [x]) Q (fun z hz => h z (by simp [hz]))
    simp only [List.append_assoc, List.nil_append, List.cons_append] at h1 ⊢
    rw [h1, ssort_swap (h x (by simp))]
theorem ssort_blocks : ∀ (B A P Q : List Ed), (∀ y ∈ B, ∀ x ∈ A, ltE y x) → ssort (P ++ (A ++ (B ++ Q))) = ssort (P ++ (B ++ (A ++ Q)))
  | [], A, P, Q, _ => rfl
  | y :: r, A, P, Q, h => by
    simp only [List.cons_append]
    rw [ssort_move A P (r ++ Q) (h y (by simp))]
    have := ssort_blocks r A (P ++ [y]) Q (fun z hz => h z (by simp [hz]))
    simp only [List.append_assoc, List.nil_append, List.cons_append] at this
    exact this

/-- No later one stands ahead of an earlier one. -/
def InOrder : List Ed → Prop
  | [] => True
  | x :: r => (∀ y ∈ r, ¬ ltE y x) ∧ InOrder r
theorem mem_ins1 (x z : Ed) : ∀ S : List Ed, z ∈ ins1 x S ↔ z = x ∨ z ∈ S
  | [] => by simp [ins1]
  | y :: r => by
    simp only [ins1]
    split
    · simp only [List.mem_cons, mem_ins1 x z r]
      constructor <;> (intro h; rcases h with h | h | h <;> simp [h])
    · simp
theorem mem_ssort (z : Ed) : ∀ S : List Ed, z ∈ ssort S ↔ z ∈ S
  | [] => by simp [ssort]
  | y :: r => by simp [ssort, mem_ins1, mem_ssort z r]
theorem ins1_order {x : Ed} : ∀ {S : List Ed}, InOrder S → InOrder (ins1 x S)
  | [], _ => ⟨fun y h => by simp at h, trivial⟩
  | y :: r, ⟨h1, h2⟩ => by
    simp only [ins1]
    split
    · rename_i h
      refine ⟨fun z hz => ?_, ins1_order h2⟩
      rcases (mem_ins1 x z r).1 hz with rfl | hz
      · exact ltE_asym h
      · exact h1 z hz
    · rename_i h
      refine ⟨fun z hz => ?_, h1, h2⟩
      rcases List.mem_cons.1 hz with rfl | hz
      · exact h
      · exact nlt_trans h (h1 z hz)
theorem ssort_order : ∀ S : List Ed, InOrder (ssort S)
  | [] => trivial
  | x :: r => ins1_order (ssort_order r)
theorem ins1_front {x : Ed} : ∀ {S : List Ed}, (∀ y ∈ S, ¬ ltE y x) → ins1 x S = x :: S
  | [], _ => rfl
  | y :: r, h => by simp only [ins1]; rw [if_neg (h y (by simp))]
theorem ssort_fix : ∀ {S : List Ed}, InOrder S → ssort S = S
  | [], _ => rfl
  | x :: r, ⟨h1, h2⟩ => by simp only [ssort, ssort_fix h2]; exact ins1_front h1
theorem ssort_length : ∀ S : List Ed, (ssort S).length = S.length
  | [] => rfl
  | x :: r => by
    have : ∀ T : List Ed, (ins1 x T).length = T.length + 1 := fun T => by
      induction T with
      | nil => rfl
      | cons y t ih => simp only [ins1]; split <;> simp [ih]
    simp [ssort, this, ssort_length r]
theorem order_append : ∀ {A B : List Ed}, InOrder A → InOrder B → (∀ x ∈ A, ∀ y ∈ B, ¬ ltE y x) → InOrder (A ++ B)
  | [], B, _, h, _ => h
  | x :: r, B, ⟨h1, h2⟩, h3, h4 => by
    refine ⟨fun y hy => ?_, order_append h2 h3 fun z hz => h4 z (by simp [hz])⟩
    rcases List.mem_append.1 hy with hy | hy
    · exact h1 y hy
    · exact h4 x (by simp) y hy
theorem order_split : ∀ {A B : List Ed}, InOrder (A ++ B) → InOrder A ∧ InOrder B ∧ (∀ x ∈ A, ∀ y ∈ B, ¬ ltE y x)
  | [], B, h => ⟨trivial, h, fun x hx => absurd hx (by simp)⟩
  | x :: r, B, ⟨h1, h2⟩ => by
    obtain ⟨g1, g2, g3⟩ := order_split h2
    refine ⟨⟨fun y hy => h1 y (by simp [hy]), g1⟩, g2, fun z hz y hy => ?_⟩
    rcases List.mem_cons.1 hz with rfl | hz
    · exact h1 y (by simp [hy])
    · exact g3 z hz y hy
theorem ssort_inner {A B : List Ed} (h : ssort A = ssort B) (P Q : List Ed) : ssort (P ++ (A ++ Q)) = ssort (P ++ (B ++ Q)) := by
  have hQ : ssort (A ++ Q) = ssort (B ++ Q) := by
    have e : ∀ A : List Ed, ssort (A ++ Q) = ssort (ssort A ++ Q) := by
      intro A
      induction A with
      | nil => rfl
      | cons x r ih =>
        simp only [List.cons_append, ssort]
        rw [ih]
        generalize ssort r = T
        -- ins1 x into T, step by step
        induction T with
        | nil => rfl
        | cons y t iht =>
          simp only [ins1]
          split
          · rename_i hy
            simp only [List.cons_append, ssort]
            rw [← iht]
            exact ins1_comm hy _
          · rfl
    rw [e A, e B, h]
  induction P with
  | nil => exact hQ
  | cons x r ih => simp only [List.cons_append, ssort, ih]
/-- Two parts, the second one nowhere ahead of the first one. -/
theorem ssort_parts {X Y : List Ed} (h : ∀ x ∈ X, ∀ y ∈ Y, ¬ ltE y x) : ssort (X ++ Y) = ssort X ++ ssort Y := by
  have h1 : ssort (X ++ Y) = ssort (ssort X ++ ssort Y) := by
    have a := ssort_inner (A := X) (B := ssort X) (by rw [ssort_fix (ssort_order X)]) [] Y
    have b := ssort_inner (A := Y) (B := ssort Y) (by rw [ssort_fix (ssort_order Y)]) (ssort X) []
    simp only [List.nil_append, List.append_nil] at a b
    rw [a, b]
  rw [h1]
  exact ssort_fix (order_append (ssort_order X) (ssort_order Y) fun x hx y hy => h x ((mem_ssort x X).1 hx) y ((mem_ssort y Y).1 hy))
/-- What SymMerge does: the middle parts are exchanged, and each half is put in order. -/
theorem ssort_sym {A1 A2 B1 B2 : List Ed} (hA : InOrder (A1 ++ A2)) (hB : InOrder (B1 ++ B2)) (h1 : ∀ x ∈ A1, ∀ y ∈ B2, ¬ ltE y x) (h2 : ∀ y ∈ B1, ∀ x ∈ A2, ltE y x) :
    ssort (A1 ++ B1) ++ ssort (A2 ++ B2) = ssort ((A1 ++ A2) ++ (B1 ++ B2)) := by
  have hb := ssort_blocks B1 A2 A1 B2 h2
  rw [List.append_assoc, hb, ← List.append_assoc, ← ssort_parts]
  intro x hx y hy
  rcases List.mem_append.1 hx with hx | hx <;> rcases List.mem_append.1 hy with hy | hy
  · exact (order_split hA).2.2 x hx y hy
  · exact h1 x hx y hy
  · exact nlt_of_lt (h2 x hx y hy)
  · exact (order_split hB).2.2 x hx y hy
end Go.Proofs.Ytficgilapbmmpaa
