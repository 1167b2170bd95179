/-
  What the tokens of a text are, by the way of the program: a plain model on lists of bytes.
-/
import Derived.Test.YtkjgkchdkeggoaaGreatDoorPass
namespace Go.Proofs.YtkjgkchdkeggoaaGreatDoor
open Go.RowKit
set_option linter.unusedVariables false

def eqB (c : UInt8) (n : Int) : Bool := (c.toNat : Int) == n
def blankB (c : UInt8) : Bool := eqB c 32 || eqB c 9 || eqB c 10 || eqB c 13
/-- A machine without a state. -/
def pureF (g : UInt8 → Bool) : Unit → UInt8 → Unit × Bool := fun _ c => ((), g c)
/-- Within a text: is the byte ahead a backslash that stands for something? -/
def qF : Bool → UInt8 → Bool × Bool := fun e c => bif e then (false, eqB c 34 || eqB c 92 || eqB c 110 || eqB c 116) else (eqB c 92, !eqB c 34 && !eqB c 10)
/-- Within notes: how deep, and the byte ahead. -/
def nF : Int × UInt8 → UInt8 → (Int × UInt8) × Bool := fun q c =>
  bif eqB q.2 40 && eqB c 42 then ((q.1 + 1, 0), true) else bif eqB q.2 42 && eqB c 41 then ((q.1 - 1, 0), decide (0 < q.1 - 1)) else ((q.1, c), true)
def lineB (c : UInt8) : Bool := !eqB c 10

def headB (l : List UInt8) (n : Int) : Bool := match l with | [] => false | c :: _ => eqB c n
/-- A text, of what stands behind its first byte. -/
def quoteN (r : List UInt8) : Int × Nat :=
  let n := passN qF false r
  bif headB (r.drop n) 34 then (5, n + 2) else (3, n + 1 + passN (pureF lineB) () (r.drop n))
def noteN (l : List UInt8) : Int × Nat :=
  let n := passN nF (0, 0) l
  bif n == l.length then (3, n) else (2, n + 1)
def bsOf (l : List UInt8) : ByteArray := ⟨l.toArray⟩
def plainN (p : List UInt8) : Int := match p with
  | [] => 3
  | c :: _ => bif digB c then (bif passN (pureF digB) () p == p.length then 4 else 3) else bif kindN (bsOf p) == 0 then 3 else kindN (bsOf p)
def tokN (l : List UInt8) : Int × Nat := match l with
  | [] => (0, 0)
  | c :: r =>
    bif blankB c then (1, passN (pureF blankB) () l)
    else bif eqB c 34 then quoteN r
    else bif eqB c 40 && headB r 42 then noteN l
    else bif restB c then (plainN (l.take (passN (pureF restB) () l)), passN (pureF restB) () l)
    else bif signB c then (plainN (l.take (passN (pureF signB) () l)), passN (pureF signB) () l)
    else (plainN (l.take 1), 1)

structure Tok where
  k : Int
  a : Nat
  e : Nat
/-- The tokens from the place a on, but the end. -/
def scanF : Nat → Nat → List UInt8 → List Tok
  | 0, _, _ => []
  | n + 1, a, l => bif l.isEmpty then [] else ⟨(tokN l).1, a, a + (tokN l).2⟩ :: scanF n (a + (tokN l).2) (l.drop (tokN l).2)
def scanN (l : List UInt8) : List Tok := scanF l.length 0 l ++ [⟨0, l.length, l.length⟩]

theorem pass_pos {g : UInt8 → Bool} {c : UInt8} {r : List UInt8} (h : g c = true) : 0 < passN (pureF g) () (c :: r) := by
  simp [passN, pureF, h]
theorem quoteN_bound (r : List UInt8) : 0 < (quoteN r).2 ∧ (quoteN r).2 ≤ r.length + 1 := by
  have h1 := passN_le qF false r
  unfold quoteN
  simp only
  cases h : headB (r.drop (passN qF false r)) 34
  · have h2 := passN_le (pureF lineB) () (r.drop (passN qF false r))
    simp at h2 ⊢; omega
  · have : passN qF false r < r.length := by
      apply Nat.lt_of_not_le
      intro hle
      rw [List.drop_eq_nil_of_le hle] at h
      simp [headB] at h
    simp; omega
theorem noteN_bound (l : List UInt8) (h : 0 < l.length) : 0 < (noteN l).2 ∧ (noteN l).2 ≤ l.length := by
  have h1 := passN_le nF (0, 0) l
  unfold noteN
  simp only
  cases e : (passN nF (0, 0) l == l.length)
  · simp at e ⊢; omega
  · simp at e ⊢; omega
theorem tokN_bound (l : List UInt8) (h : l ≠ []) : 0 < (tokN l).2 ∧ (tokN l).2 ≤ l.length := by
  cases l with
  | nil => exact absurd rfl h
  | cons c r =>
    unfold tokN
    simp only
    cases h1 : blankB c
    · cases h2 : eqB c 34
      · cases h3 : (eqB c 40 && headB r 42)
        · cases h4 : restB c
          · cases h5 : signB c
            · simp
            · exact ⟨pass_pos h5, passN_le _ _ _⟩
          · exact ⟨pass_pos h4, passN_le _ _ _⟩
        · exact noteN_bound _ (by simp)
      · have := quoteN_bound r
        exact ⟨this.1, by simpa using this.2⟩
    · exact ⟨pass_pos h1, passN_le _ _ _⟩
theorem scanF_fuel (n m : Nat) (a : Nat) (l : List UInt8) (hn : l.length ≤ n) (hm : l.length ≤ m) : scanF n a l = scanF m a l := by
  induction n generalizing m a l with
  | zero =>
    have : l = [] := List.length_eq_zero_iff.1 (by omega)
    subst this
    cases m <;> simp [scanF]
  | succ n ih =>
    cases l with
    | nil => cases m <;> simp [scanF]
    | cons c r =>
      cases m with
      | zero => simp at hm
      | succ m =>
        have hb := tokN_bound (c :: r) (by simp)
        simp only [scanF, List.isEmpty_cons, cond_false]
        rw [ih m _ _ (by simp at hn ⊢; omega) (by simp at hm ⊢; omega)]
/-- One token at a time. -/
theorem scan_at (s : ByteArray) (a : Nat) (h : a < s.size) : scanF s.size a (s.data.toList.drop a) = ⟨(tokN (s.data.toList.drop a)).1, a, a + (tokN (s.data.toList.drop a)).2⟩ :: scanF s.size (a + (tokN (s.data.toList.drop a)).2) (s.data.toList.drop (a + (tokN (s.data.toList.drop a)).2)) := by
  have hl : (s.data.toList.drop a).length ≤ s.size := by rw [List.length_drop, data_len]; omega
  rw [scanF_fuel s.size (s.size + 1) a _ hl (by omega)]
  simp only [scanF]
  rw [List.drop_drop]
  rw [drop_at s a h]
  simp
theorem scan_end (s : ByteArray) (a n : Nat) (h : s.size ≤ a) : scanF n a (s.data.toList.drop a) = [] := by
  rw [List.drop_eq_nil_of_le (by rw [data_len]; exact h)]
  cases n <;> simp [scanF]
end Go.Proofs.YtkjgkchdkeggoaaGreatDoor
