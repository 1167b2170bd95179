/-
  A text's tokens follow one another: plain facts.
-/
import Derived.Test.YtnkgmddaodbpcaaDoorAlive
namespace Go.Proofs.YtnkgmddaodbpcaaDoor
open Go.RowKit
set_option linter.unusedVariables false
set_option linter.unusedSimpArgs false

/-- Tokens from the place a on, each where the one ahead ends, up to the end at n. -/
def Chain (n : Nat) : Nat → List Tok → Prop
  | _, [] => False
  | a, t :: r => (r = [] ∧ t = ⟨0, n, n⟩ ∧ a = n) ∨ (t.k ≠ 0 ∧ t.a = a ∧ a < t.e ∧ t.e ≤ n ∧ Chain n t.e r)
theorem restT_chain (s : ByteArray) (a : Nat) (ha : a ≤ s.size) : Chain s.size a (restT s a) := by
  obtain ⟨m, hm⟩ : ∃ m, m = s.size - a := ⟨_, rfl⟩
  induction m using Nat.strongRecOn generalizing a with
  | _ m ih =>
    by_cases h : a < s.size
    · have hb := tokAt_bound s a h
      rw [restT_at s a h]
      refine .inr ⟨?_, ?_, hb.1, hb.2, ih (s.size - (tokAt s a).e) (by omega) _ hb.2 rfl⟩
      · rw [tokAt_in s a h]; exact tokN_kind _ (by rw [drop_at s a h]; simp)
      · rw [tokAt_in s a h]
    · have : a = s.size := by omega
      subst this
      rw [restT_end, tokAt_end]
      exact .inl ⟨rfl, rfl, rfl⟩
/-- Where token i begins; n behind the last. -/
def posT (n : Nat) (l : List Tok) (i : Nat) : Nat := match l[i]? with
  | some t => t.a
  | none => n
theorem Chain.length {n a : Nat} {l : List Tok} (h : Chain n a l) : 0 < l.length ∧ l.length ≤ n - a + 1 ∧ a ≤ n := by
  induction l generalizing a with
  | nil => exact h.elim
  | cons t r ih =>
    rcases h with ⟨h1, _, h2⟩ | ⟨_, _, h3, h4, h5⟩
    · subst h1; simp; omega
    · have := ih h5; simp; omega
theorem Chain.pos0 {n a : Nat} {l : List Tok} (h : Chain n a l) : posT n l 0 = a := by
  cases l with
  | nil => exact h.elim
  | cons t r =>
    rcases h with ⟨_, h1, h2⟩ | ⟨_, h1, _⟩
    · subst h1; simp [posT, h2]
    · simpa [posT] using h1
theorem posT_end (n : Nat) (l : List Tok) : posT n l l.length = n := by simp [posT]
theorem posT_in (n : Nat) (l : List Tok) (i : Nat) (h : i < l.length) : posT n l i = l[i].a := by simp [posT, h]
theorem posT_cons (n : Nat) (t : Tok) (r : List Tok) (i : Nat) : posT n (t :: r) (i + 1) = posT n r i := by simp [posT]
theorem Chain.at {n a : Nat} {l : List Tok} (h : Chain n a l) (i : Nat) (hi : i < l.length) :
    l[i].a = posT n l i ∧ l[i].e = posT n l (i + 1) ∧ l[i].e ≤ n ∧ ((i + 1 = l.length ∧ l[i].k = 0 ∧ l[i].e = l[i].a) ∨ (i + 1 < l.length ∧ l[i].k ≠ 0 ∧ l[i].a < l[i].e)) := by
  refine ⟨(posT_in n l i hi).symm, ?_⟩
  induction l generalizing a i with
  | nil => exact h.elim
  | cons t r ih =>
    rcases h with ⟨h1, h2, h3⟩ | ⟨h1, h2, h3, h4, h5⟩
    · subst h1
      have : i = 0 := by simp at hi; omega
      subst this
      subst h2
      simp [posT]
    · cases i with
      | zero =>
        have hl := h5.length
        simp only [posT_cons, h5.pos0, List.getElem_cons_zero, List.length_cons]
        exact ⟨by first | trivial | rfl, h4, .inr ⟨by omega, h1, by omega⟩⟩
      | succ i =>
        have := ih h5 i (by simpa using hi)
        simp only [posT_cons, List.getElem_cons_succ, List.length_cons]
        refine ⟨this.1, this.2.1, ?_⟩
        rcases this.2.2 with ⟨e, f⟩ | ⟨e, f⟩
        · exact .inl ⟨by omega, f⟩
        · exact .inr ⟨by omega, f⟩
theorem scan_chain (s : ByteArray) : Chain s.size 0 (scanT s) := restT_chain s 0 (by omega)
end Go.Proofs.YtnkgmddaodbpcaaDoor
