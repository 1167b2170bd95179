/-
  Sets of numbers, packed into words: the plain facts.
-/
import Derived.Test.YtlfnefgcndhomaaBase
namespace Go.Proofs.Ytlfnefgcndhomaa
set_option linter.unusedVariables false

/-- Is a number in? -/
def memW (l : List Nat) (m : Nat) : Bool := (l.getD (m / 64) 0).testBit (m % 64)
/-- As many words at least. -/
def padW (l : List Nat) (k : Nat) : List Nat := l ++ List.replicate (k - l.length) 0
/-- A number put in, that may be in. -/
def putW (l : List Nat) (n : Nat) : List Nat := (padW l (n / 64 + 1)).set (n / 64) ((padW l (n / 64 + 1)).getD (n / 64) 0 ||| 2 ^ (n % 64))
def mayB (n : Int) : Bool := decide (0 ≤ n ∧ n ≤ 65535)
def addW (l : List Nat) (n : Int) : List Nat := bif mayB n then putW l n.toNat else l
/-- Words of 64 bits. -/
def W64 (l : List Nat) : Prop := ∀ x ∈ l, x < 18446744073709551616

theorem padW_length (l : List Nat) (k : Nat) : (padW l k).length = max l.length k := by simp [padW]; omega
theorem padW_getD (l : List Nat) (k i : Nat) : (padW l k).getD i 0 = l.getD i 0 := by
  unfold padW
  simp only [List.getD_eq_getElem?_getD, List.getElem?_append]
  split
  · rfl
  · rename_i h
    rw [List.getElem?_replicate, List.getElem?_eq_none (l := l) (by omega)]
    split <;> simp
theorem padW_small (l : List Nat) (k : Nat) (h : k ≤ l.length) : padW l k = l := by simp [padW, show k - l.length = 0 by omega]
theorem padW_W64 {l : List Nat} (h : W64 l) (k : Nat) : W64 (padW l k) := by
  intro x hx
  rcases List.mem_append.1 hx with hx | hx
  · exact h x hx
  · rw [List.eq_of_mem_replicate hx]; omega
theorem getD_W64 {l : List Nat} (h : W64 l) (i : Nat) : l.getD i 0 < 18446744073709551616 := by
  rw [List.getD_eq_getElem?_getD]
  by_cases hi : i < l.length
  · rw [List.getElem?_eq_getElem hi]; exact h _ (List.getElem_mem hi)
  · rw [List.getElem?_eq_none (by omega)]; simp
theorem or_W64 {x y : Nat} (hx : x < 18446744073709551616) (hy : y < 18446744073709551616) : x ||| y < 18446744073709551616 := Nat.or_lt_two_pow (n := 64) hx hy
theorem bit_W64 (n : Nat) : 2 ^ (n % 64) < 18446744073709551616 := by
  have : 2 ^ (n % 64) < 2 ^ 64 := Nat.pow_lt_pow_right (by omega) (by omega)
  omega
theorem putW_W64 {l : List Nat} (h : W64 l) (n : Nat) : W64 (putW l n) := by
  intro x hx
  rcases List.mem_or_eq_of_mem_set hx with hx | rfl
  · exact padW_W64 h _ x hx
  · exact or_W64 (getD_W64 (padW_W64 h _) _) (bit_W64 n)
theorem addW_W64 {l : List Nat} (h : W64 l) (n : Int) : W64 (addW l n) := by
  unfold addW
  cases mayB n
  · exact h
  · exact putW_W64 h _
theorem putW_length (l : List Nat) (n : Nat) : (putW l n).length = max l.length (n / 64 + 1) := by simp [putW, padW_length]
theorem addW_length (l : List Nat) (n : Int) : (addW l n).length ≤ max l.length 1024 := by
  unfold addW
  cases h : mayB n
  · simp; omega
  · simp only [cond_true, putW_length]; simp [mayB] at h; omega
theorem set_getD (l : List Nat) (i j x : Nat) (h : i < l.length) : (l.set i x).getD j 0 = if i = j then x else l.getD j 0 := by
  simp only [List.getD_eq_getElem?_getD, List.getElem?_set]
  split
  · subst_vars; simp
  · rfl
theorem memW_putW (l : List Nat) (n m : Nat) : memW (putW l n) m = (memW l m || decide (m = n)) := by
  unfold memW putW
  rw [set_getD _ _ _ _ (by rw [padW_length]; omega), padW_getD, padW_getD]
  by_cases h : n / 64 = m / 64
  · rw [if_pos h, h, Nat.testBit_or, Nat.testBit_two_pow]
    congr 1
    rw [decide_eq_decide]
    omega
  · rw [if_neg h]
    have : ¬ m = n := fun e => h (by rw [e])
    simp [this]
theorem memW_addW (l : List Nat) (n : Int) (m : Nat) : memW (addW l n) m = (memW l m || (mayB n && decide ((m : Int) = n))) := by
  unfold addW
  cases h : mayB n
  · simp
  · simp only [cond_true, memW_putW]
    congr 1
    simp [mayB] at h
    rw [Bool.true_and, decide_eq_decide]
    omega
theorem memW_nil (m : Nat) : memW [] m = false := by simp [memW]

/-- The members below a bound, rising. -/
def listW (l : List Nat) (N : Nat) : List Int := ((List.range N).filter (memW l)).map Int.ofNat
theorem listW_succ (l : List Nat) (N : Nat) : listW l (N + 1) = listW l N ++ (bif memW l N then [(N : Int)] else []) := by
  unfold listW
  rw [List.range_succ, List.filter_append, List.map_append]
  cases h : memW l N <;> simp [h]
theorem listW_length (l : List Nat) (N : Nat) : (listW l N).length ≤ N := by
  unfold listW
  rw [List.length_map]
  exact Nat.le_trans (List.length_filter_le _ _) (by simp)
theorem testBit_div (x i : Nat) : x.testBit i = decide (x / 2 ^ i % 2 = 1) := Nat.testBit_eq_decide_div_mod_eq
/-- How many words have a say. -/
def saidN (l : List Nat) : Nat := min l.length 1024
/-- All members. -/
def allW (l : List Nat) : List Int := listW l (64 * saidN l)
end Go.Proofs.Ytlfnefgcndhomaa
