/-
  Plain facts of environments: how two keys stand, lists in the order of their keys, what is put in, what is bound.
-/
import Derived.Test.YtckddpnjammfmaaRows
import Derived.WalkKit
import Derived.Below
import Derived.Deep.Draws
import Derived.Lib.Hide
import Derived.Handy
import Derived.RegionTactic
import Derived.ChangeAlike
import Derived.Deep.QuietTactic
import Derived.BigQuiet
import Derived.Deep.RegionHeld3
namespace Go.Proofs.Ytckddpnjammfmaa
open Go.RowKit
set_option linter.unusedVariables false
set_option linter.unusedSimpArgs false

theorem ret_bool {a b : Bool} (h : a = b) : Ending.returned (.bool a) = .returned (.bool b) := by rw [h]
theorem ret_int {k : IntKind} {a b : Int} (h : a = b) : Ending.returned (.int k a) = .returned (.int k b) := by rw [h]
theorem below_drewN {N : Nat} {w w1 : World} (h : Below N w w1) (n : Nat) : Below N w (w1.drewN n) := ⟨h.os, h.tape, h.output, h.size, h.block⟩

/-- A key: a space, and a name. -/
abbrev Ky := Int × ByteArray
def cmpI (x y : Int) : Int := if x < y then -1 else if y < x then 1 else 0
def cmpS (a b : ByteArray) : Int := if Op.bytesLess a.toList b.toList = true then -1 else if a.toList = b.toList then 0 else 1
def orI (x y : Int) : Int := if x ≠ 0 then x else y
theorem orI_yes {x y : Int} (h : x ≠ 0) : orI x y = x := if_pos h
theorem orI_no (y : Int) : orI 0 y = y := if_neg (by simp)
def ordK (a b : Ky) : Int := orI (cmpI a.1 b.1) (cmpS a.2 b.2)
theorem ba_toList (a b : ByteArray) : a.toList = b.toList ↔ a = b := by
  rw [ByteArray.toList_eq, ByteArray.toList_eq]
  constructor
  · intro h
    cases a; cases b
    simp only at h
    congr 1
    exact Array.toList_inj.1 h
  · intro h; rw [h]
theorem less_irr : ∀ l : List UInt8, Op.bytesLess l l = false
  | [] => by simp [Op.bytesLess]
  | a :: l => by simp [Op.bytesLess, less_irr l]
theorem less_trans : ∀ a b c : List UInt8, Op.bytesLess a b = true → Op.bytesLess b c = true → Op.bytesLess a c = true
  | _, _, [] => by intro _ h; simp [Op.bytesLess] at h
  | _, [], _ :: _ => by intro h; simp [Op.bytesLess] at h
  | [], _ :: _, _ :: _ => by intro _ _; simp [Op.bytesLess]
  | x :: a, y :: b, z :: c => by
    intro h1 h2
    simp only [Op.bytesLess, Bool.or_eq_true, Bool.and_eq_true, decide_eq_true_eq, beq_iff_eq] at *
    rcases h1 with h1 | ⟨rfl, h1⟩
    · rcases h2 with h2 | ⟨rfl, h2⟩
      · exact .inl (UInt8.lt_trans h1 h2)
      · exact .inl h1
    · rcases h2 with h2 | ⟨rfl, h2⟩
      · exact .inl h2
      · exact .inr ⟨rfl, less_trans a b c h1 h2⟩
theorem less_total : ∀ a b : List UInt8, Op.bytesLess a b = true ∨ a = b ∨ Op.bytesLess b a = true
  | [], [] => .inr (.inl rfl)
  | [], _ :: _ => by simp [Op.bytesLess]
  | _ :: _, [] => by simp [Op.bytesLess]
  | x :: a, y :: b => by
    simp only [Op.bytesLess, Bool.or_eq_true, Bool.and_eq_true, decide_eq_true_eq, beq_iff_eq, List.cons.injEq]
    rcases UInt8.lt_or_lt_of_ne (a := x) (b := y) |> fun h => (Decidable.em (x = y)).imp id h with h | h | h
    · subst h
      rcases less_total a b with h | h | h
      · exact .inl (.inr ⟨rfl, h⟩)
      · exact .inr (.inl ⟨rfl, h⟩)
      · exact .inr (.inr (.inr ⟨rfl, h⟩))
    · exact .inl (.inl h)
    · exact .inr (.inr (.inl h))
/-- Does a key come ahead of another one? -/
def LtK (a b : Ky) : Prop := a.1 < b.1 ∨ a.1 = b.1 ∧ Op.bytesLess a.2.toList b.2.toList = true
theorem ltK_irr (a : Ky) : ¬ LtK a a := (by
  rintro (h | ⟨_, h⟩)
  · omega
  · rw [less_irr] at h; cases h)
theorem ltK_trans {a b c : Ky} (h : LtK a b) (g : LtK b c) : LtK a c := by
  rcases h with h | ⟨h, h'⟩ <;> rcases g with g | ⟨g, g'⟩
  · exact .inl (by omega)
  · exact .inl (by omega)
  · exact .inl (by omega)
  · exact .inr ⟨by omega, less_trans _ _ _ h' g'⟩
theorem ltK_total (a b : Ky) : LtK a b ∨ a = b ∨ LtK b a := by
  obtain ⟨s, n⟩ := a; obtain ⟨t, m⟩ := b
  unfold LtK
  simp only [Prod.mk.injEq]
  rcases Int.lt_trichotomy s t with h | h | h
  · exact .inl (.inl h)
  · subst h
    rcases less_total n.toList m.toList with h | h | h
    · exact .inl (.inr ⟨rfl, h⟩)
    · exact .inr (.inl ⟨rfl, (ba_toList _ _).1 h⟩)
    · exact .inr (.inr (.inr ⟨rfl, h⟩))
  · exact .inr (.inr (.inl h))
theorem cmpS_bd (a b : ByteArray) : -1 ≤ cmpS a b ∧ cmpS a b ≤ 1 := by unfold cmpS; split <;> (try split) <;> omega
theorem ordK_bd (a b : Ky) : -1 ≤ ordK a b ∧ ordK a b ≤ 1 := by
  have := cmpS_bd a.2 b.2
  unfold ordK orI cmpI
  split <;> (repeat' split) <;> omega
theorem ordK_lt (a b : Ky) : ordK a b < 0 ↔ LtK a b := by
  rcases Int.lt_trichotomy a.1 b.1 with h | h | h
  · have : ordK a b = -1 := by unfold ordK orI cmpI; simp [h]
    rw [this]
    exact ⟨fun _ => .inl h, fun _ => by omega⟩
  · have : ordK a b = cmpS a.2 b.2 := by unfold ordK orI cmpI; simp [h]
    rw [this]
    unfold cmpS LtK
    constructor
    · intro hc
      refine .inr ⟨h, ?_⟩
      split at hc
      · assumption
      · split at hc <;> omega
    · rintro (h1 | ⟨_, h1⟩)
      · omega
      · rw [if_pos h1]; omega
  · have h' : ¬ a.1 < b.1 := by omega
    have : ordK a b = 1 := by unfold ordK orI cmpI; simp [h, h']
    rw [this]
    refine ⟨fun hc => by omega, ?_⟩
    rintro (h1 | ⟨h1, _⟩) <;> omega
theorem ordK_eq (a b : Ky) : ordK a b = 0 ↔ a = b := by
  constructor
  · intro h
    rcases ltK_total a b with h1 | h1 | h1
    · have := (ordK_lt a b).2 h1; omega
    · exact h1
    · exfalso
      unfold ordK orI cmpI cmpS at h
      rcases h1 with h1 | ⟨h1, h2⟩
      · have : ¬ a.1 < b.1 := by omega
        simp [this, h1] at h
      · have h3 : Op.bytesLess a.2.toList b.2.toList = false := by
          cases hh : Op.bytesLess a.2.toList b.2.toList with
          | false => rfl
          | true => have := less_trans _ _ _ hh h2; rw [less_irr] at this; cases this
        have h4 : a.2.toList ≠ b.2.toList := fun e => by rw [e, less_irr] at h2; cases h2
        simp [h1, h3, h4] at h
  · rintro rfl
    unfold ordK orI cmpI cmpS
    simp [less_irr]
theorem ordK_gt (a b : Ky) : 0 < ordK a b ↔ LtK b a := by
  constructor
  · intro h
    rcases ltK_total a b with h1 | h1 | h1
    · have := (ordK_lt a b).2 h1; omega
    · have := (ordK_eq a b).2 h1; omega
    · exact h1
  · intro h
    rcases Int.lt_trichotomy (ordK a b) 0 with h1 | h1 | h1
    · exact absurd (ltK_trans ((ordK_lt a b).1 h1) h) (ltK_irr _)
    · rw [(ordK_eq a b).1 h1] at h; exact absurd h (ltK_irr _)
    · exact h1

/-- A binding, without where it lies. -/
structure Bi where
  k : Ky
  dc : Int
  via : Int
  pa : Option Addr
  pm : Option Addr
/-- A binding, and the block of its link. -/
structure Bd where
  bi : Bi
  lk : Nat
abbrev Bd.k (b : Bd) : Ky := b.bi.k
def Srt (l : List Bd) : Prop := l.Pairwise (fun x y => LtK x.k y.k)
def insL : List Bd → Bd → List Bd
  | [], b => [b]
  | x :: r, b => if ordK b.k x.k < 0 then b :: x :: r else if 0 < ordK b.k x.k then x :: insL r b else b :: r
theorem insL_left (b y : Bd) (R : List Bd) : ∀ L : List Bd, Srt (L ++ y :: R) → LtK b.k y.k → insL (L ++ y :: R) b = insL L b ++ y :: R
  | [], _, h => by simp only [List.nil_append, insL, if_pos ((ordK_lt _ _).2 h)]; rfl
  | x :: L, hs, h => by
    have hs' : Srt (L ++ y :: R) := (List.pairwise_cons.1 hs).2
    simp only [List.cons_append, insL, insL_left b y R L hs' h]
    split
    · rfl
    · split <;> rfl
theorem insL_right (b y : Bd) (R : List Bd) : ∀ L : List Bd, Srt (L ++ y :: R) → LtK y.k b.k → insL (L ++ y :: R) b = L ++ y :: insL R b
  | [], _, h => by
    have h1 := (ordK_gt b.k y.k).2 h
    simp only [List.nil_append, insL, if_pos h1, if_neg (show ¬ ordK b.k y.k < 0 by omega)]
  | x :: L, hs, h => by
    have hs' : Srt (L ++ y :: R) := (List.pairwise_cons.1 hs).2
    have hx : LtK x.k y.k := (List.pairwise_cons.1 hs).1 y (by simp)
    have h1 := (ordK_gt b.k x.k).2 (ltK_trans hx h)
    simp only [List.cons_append, insL, insL_right b y R L hs' h, if_pos h1, if_neg (show ¬ ordK b.k x.k < 0 by omega)]
theorem insL_same (b y : Bd) (R : List Bd) : ∀ L : List Bd, Srt (L ++ y :: R) → b.k = y.k → insL (L ++ y :: R) b = L ++ b :: R
  | [], _, h => by
    have h1 := (ordK_eq b.k y.k).2 h
    simp only [List.nil_append, insL, if_neg (show ¬ ordK b.k y.k < 0 by omega), if_neg (show ¬ 0 < ordK b.k y.k by omega)]
  | x :: L, hs, h => by
    have hs' : Srt (L ++ y :: R) := (List.pairwise_cons.1 hs).2
    have hx : LtK x.k y.k := (List.pairwise_cons.1 hs).1 y (by simp)
    rw [← h] at hx
    have h1 := (ordK_gt b.k x.k).2 hx
    simp only [List.cons_append, insL, insL_same b y R L hs' h, if_pos h1, if_neg (show ¬ ordK b.k x.k < 0 by omega)]
theorem insL_mem (b z : Bd) : ∀ L : List Bd, z ∈ insL L b → z = b ∨ z ∈ L
  | [], h => by simpa [insL] using h
  | x :: L, h => by
    simp only [insL] at h
    split at h
    · simpa using h
    · split at h
      · rcases List.mem_cons.1 h with h | h
        · exact .inr (by simp [h])
        · rcases insL_mem b z L h with h | h
          · exact .inl h
          · exact .inr (by simp [h])
      · rcases List.mem_cons.1 h with h | h
        · exact .inl h
        · exact .inr (by simp [h])
theorem insL_srt (b : Bd) : ∀ L : List Bd, Srt L → Srt (insL L b)
  | [], _ => by simp [insL, Srt]
  | x :: L, h => by
    obtain ⟨h1, h2⟩ := List.pairwise_cons.1 h
    simp only [insL]
    split
    · rename_i hc
      have hc := (ordK_lt _ _).1 hc
      refine List.pairwise_cons.2 ⟨fun z hz => ?_, h⟩
      rcases List.mem_cons.1 hz with rfl | hz
      · exact hc
      · exact ltK_trans hc (h1 z hz)
    · split
      · rename_i hc
        refine List.pairwise_cons.2 ⟨fun z hz => ?_, insL_srt b L h2⟩
        rcases insL_mem b z L hz with rfl | hz
        · exact (ordK_gt _ _).1 hc
        · exact h1 z hz
      · rename_i hc1 hc2
        have he : b.k = x.k := (ordK_eq _ _).1 (by omega)
        refine List.pairwise_cons.2 ⟨fun z hz => ?_, h2⟩
        show LtK b.k z.k
        rw [he]; exact h1 z hz
theorem insL_len (b : Bd) : ∀ L : List Bd, (insL L b).length ≤ L.length + 1
  | [] => by simp [insL]
  | x :: L => by
    have := insL_len b L
    simp only [insL]
    split
    · simp
    · split <;> simp <;> omega
theorem insL_ne (b : Bd) (L : List Bd) : insL L b ≠ [] := by
  cases L with
  | nil => simp [insL]
  | cons x L => simp only [insL]; split <;> (try split) <;> simp
/-- What a key is bound to: the first of a list that has it. -/
def look (l : List Bd) (k : Ky) : Option Bd := l.find? (fun b => decide (b.k = k))
theorem look_none {L : List Bd} {k : Ky} (h : ∀ z ∈ L, LtK k z.k) : look L k = none := by
  refine List.find?_eq_none.2 fun z hz => ?_
  have := h z hz
  simp only [decide_eq_true_eq]
  intro e
  rw [e] at this
  exact ltK_irr _ this
theorem insL_look (b : Bd) (k : Ky) : ∀ L : List Bd, Srt L → look (insL L b) k = if b.k = k then some b else look L k
  | [], _ => by simp only [insL, look, List.find?_cons, List.find?_nil]; split <;> simp_all
  | x :: L, h => by
    obtain ⟨h1, h2⟩ := List.pairwise_cons.1 h
    have ih := insL_look b k L h2
    simp only [insL]
    split
    · simp only [look, List.find?_cons]
      by_cases hb : b.k = k <;> simp [hb]
    · split
      · rename_i hc
        have hc := (ordK_gt _ _).1 hc
        simp only [look, List.find?_cons] at ih ⊢
        by_cases hx : x.k = k
        · have : ¬ b.k = k := fun e => by rw [hx, e] at hc; exact ltK_irr _ hc
          simp [hx, this]
        · simp only [hx, decide_false]; exact ih
      · rename_i hc1 hc2
        have he : b.k = x.k := (ordK_eq _ _).1 (by omega)
        simp only [look, List.find?_cons]
        by_cases hb : b.k = k
        · simp [hb]
        · have : ¬ x.k = k := fun e => hb (he.trans e)
          simp [hb, this]
theorem look_sorted_mem {L : List Bd} (h : Srt L) {b : Bd} (hb : b ∈ L) : look L b.k = some b := by
  induction L with
  | nil => cases hb
  | cons x L ih =>
    obtain ⟨h1, h2⟩ := List.pairwise_cons.1 h
    rcases List.mem_cons.1 hb with rfl | hb
    · simp [look]
    · have := h1 b hb
      have hne : ¬ x.k = b.k := fun e => by rw [e] at this; exact ltK_irr _ this
      have := ih h2 hb
      simp only [look, List.find?_cons, hne, decide_false] at this ⊢
      exact this
theorem look_some {L : List Bd} {k : Ky} {b : Bd} (h : look L k = some b) : b ∈ L ∧ b.k = k := by
  have h1 := List.find?_some h
  exact ⟨List.mem_of_find?_eq_some h, by simpa using h1⟩
end Go.Proofs.Ytckddpnjammfmaa
