/-
  What all walks of this seat share: rows of numbers as they lie in memory, and what is kept from a base world on.
-/
import Derived.Test.YtlfnefgcndhomaaRows
import Derived.WalkKit
import Derived.Below
import Derived.Deep.Draws
import Derived.Lib.Hide
import Derived.Handy
import Derived.RegionTactic
import Derived.ChangeAlike
import Derived.Deep.QuietTactic
import Derived.BigQuiet
import Derived.Laws.AppendOwn
import Derived.Laws.OwnMore
import Derived.Laws.BitsAllLaws
import Derived.IntWalk
namespace Go.Proofs.Ytlfnefgcndhomaa
open Go.RowKit
set_option linter.unusedVariables false

theorem ret_bool {a b : Bool} (h : a = b) : Ending.returned (.bool a) = .returned (.bool b) := by rw [h]
theorem ret_int {k : IntKind} {a b : Int} (h : a = b) : Ending.returned (.int k a) = .returned (.int k b) := by rw [h]

theorem below_drewN {N : Nat} {w w1 : World} (h : Below N w w1) (n : Nat) : Below N w (w1.drewN n) := ⟨h.os, h.tape, h.output, h.size, h.block⟩

/-- A row of one-cell values from a place on. -/
def At {α : Type} (mk : α → Value) (w : World) (b off : Nat) (l : List α) : Prop :=
  ∀ i, (h : i < l.length) → w.cell? ⟨b, off + i, none⟩ = some (mk l[i])
/-- A slice value reads as this list. -/
def In {α : Type} (mk : α → Value) (w : World) (p : Option Addr) (n cap : Nat) (l : List α) : Prop :=
  n = l.length ∧ (n = 0 ∨ ∃ b off, p = some ⟨b, off, none⟩ ∧ n ≤ cap ∧ b < w.heap.size ∧ At mk w b off l)
/-- An int, a byte, a word. -/
abbrev mkI : Int → Value := fun x => .int .i64 x
abbrev mkB : UInt8 → Value := fun x => .int .u8 (x.toNat : Int)
abbrev mkW : Nat → Value := fun x => .int .u64 (x : Int)

theorem At.step {α : Type} {mk : α → Value} {w w1 : World} {b off : Nat} {l : List α} (h : At mk w b off l) (hb : b < w.heap.size) (hw : Below w.heap.size w w1) : At mk w1 b off l :=
  fun i hi => (hw.cell (p := ⟨b, _, none⟩) hb).trans (h i hi)
theorem In.step {α : Type} {mk : α → Value} {w w1 : World} {p : Option Addr} {n cap : Nat} {l : List α} (h : In mk w p n cap l) (hw : Below w.heap.size w w1) : In mk w1 p n cap l := by
  obtain ⟨hn, h0 | ⟨b, off, hp, hc, hb, hat⟩⟩ := h
  · exact ⟨hn, .inl h0⟩
  · exact ⟨hn, .inr ⟨b, off, hp, hc, Nat.lt_of_lt_of_le hb hw.size, hat.step hb hw⟩⟩
theorem In.nil {α : Type} (mk : α → Value) (w : World) (p : Option Addr) (cap : Nat) : In mk w p 0 cap [] := ⟨rfl, .inl rfl⟩
theorem In.zero {α : Type} {mk : α → Value} {w : World} {p : Option Addr} {cap : Nat} {l : List α} (h : In mk w p 0 cap l) : l = [] := List.length_eq_zero_iff.1 h.1.symm
theorem In.drop {α : Type} {mk : α → Value} {w : World} {b off n cap : Nat} {l : List α} (hn : n = l.length) (hc : n ≤ cap) (hb : b < w.heap.size) (hat : At mk w b off l) (k : Nat) (hk : k ≤ n) : In mk w (some ⟨b, off + k, none⟩) (n - k) (cap - k) (l.drop k) := by
  refine ⟨by simp [hn], .inr ⟨b, off + k, rfl, by omega, hb, fun i hi => ?_⟩⟩
  have := hat (k + i) (by simp at hi; omega)
  rw [List.getElem_drop, Nat.add_assoc]
  exact this

/-- What a row of the call's own reads as. -/
theorem in_of_row {α : Type} {mk : α → Value} {w : World} {base E n : Nat} {v : Value} {l : List α} (h : w.ownsRow base E 1 v n (l.map mk)) (hn : n = l.length) :
    ∃ p c, v = .slice p n c ∧ In mk w p n c l := by
  subst hn
  rcases h.2 with ⟨rfl, h1⟩ | ⟨g, c, cur, rfl, hg, hh, hle, hm, hsz, ht⟩
  · exact ⟨none, 0, by rw [h1], rfl, .inl h1⟩
  · refine ⟨_, c, rfl, rfl, .inr ⟨g, 0, rfl, hle, (Array.getElem?_eq_some_iff.1 hh).1, fun i hi => ?_⟩⟩
    have := World.ownsRow.cells h (g := g) rfl i (mk l[i]) (by simp [hi])
    have ha : ((⟨g, 0, none⟩ : Addr).add i) = ⟨g, 0 + i, none⟩ := by unfold Addr.add; split <;> simp_all
    rw [ha] at this
    exact this
theorem row_step {w w1 : World} {base E size n : Nat} {v : Value} {xs : List Value} (h : w.ownsRow base E size v n xs) (hb : Below w.heap.size w w1) : w1.ownsRow base E size v n xs := by
  refine h.kept (row := none) ⟨hb.os, hb.tape, hb.output, hb.size, fun k hk _ => hb.block k hk⟩ ?_
  cases v.ownBlock with
  | none => exact .inl rfl
  | some k => exact .inr (by simp)
theorem grown_below {w w1 : World} (h : Below w.heap.size w w1) (r : Option Nat) : w.grownBy w1 r := ⟨h.os, h.tape, h.output, h.size, fun j hj _ => h.block j hj⟩
theorem grown_trans {w w1 w2 : World} {r : Option Nat} (h : w.grownBy w1 r) (k : w1.grownBy w2 r) : w.grownBy w2 r :=
  ⟨k.os.trans h.os, k.tape.trans h.tape, k.output.trans h.output, Nat.le_trans h.size k.size, fun j hj hn => (k.block j (Nat.lt_of_lt_of_le hj h.size) hn).trans (h.block j hj hn)⟩
theorem grown_same (w : World) (r : Option Nat) : w.grownBy w r := ⟨rfl, rfl, rfl, Nat.le_refl _, fun _ _ _ => rfl⟩
/-- What grows by a row that is not older than N leaves all below N as it was. -/
theorem below_grown {N : Nat} {w w1 w2 : World} {r : Option Nat} (h : Below N w w1) (hg : w1.grownBy w2 r) (hs : N ≤ w1.heap.size) (hr : ∀ k, r = some k → N ≤ k) : Below N w w2 := h.grown hg hs hr

theorem no_any (x : Int) (w : World) : Calls Try.prog 11 #[.int .i64 x] w fun e w' => e = .returned (.int .i64 x) ∧ w = w' := by
  go_enter Try.func11, Try.ntmps11
  go_wp2
  go_ret
  exact ⟨rfl, rfl⟩
def withinB (n m : Int) : Bool := decide (0 ≤ n ∧ n ≤ m)
theorem within_any (n m : Int) (w : World) : Calls Try.prog 38 #[.int .i64 n, .int .i64 m] w fun e w' => e = .returned (.bool (withinB n m)) ∧ w = w' := by
  by_cases h1 : 0 ≤ n
  · by_cases h2 : n ≤ m
    · have h : Hid (withinB n m = true) := Lib.hid (by simp [withinB, h1, h2])
      go_enter Try.func38, Try.ntmps38
      go_wp2
      go_ret
      exact ⟨ret_bool h.out.symm, rfl⟩
    · have h : Hid (withinB n m = false) := Lib.hid (by simp [withinB, h1, h2])
      go_enter Try.func38, Try.ntmps38
      go_wp2
      go_ret
      exact ⟨ret_bool h.out.symm, rfl⟩
  · have h : Hid (withinB n m = false) := Lib.hid (by simp [withinB, h1])
    go_enter Try.func38, Try.ntmps38
    go_wp2
    go_ret
    exact ⟨ret_bool h.out.symm, rfl⟩
theorem within_yes (n m : Int) (w : World) (h1 : 0 ≤ n) (h2 : n ≤ m) : Calls Try.prog 38 #[.int .i64 n, .int .i64 m] w fun e w' => e = .returned (.bool true) ∧ w = w' := by
  refine (within_any n m w).mono ?_
  rintro e w' ⟨rfl, rfl⟩
  exact ⟨ret_bool (by simp [withinB, h1, h2]), rfl⟩
theorem within_no (n m : Int) (w : World) (h : ¬ (0 ≤ n ∧ n ≤ m)) : Calls Try.prog 38 #[.int .i64 n, .int .i64 m] w fun e w' => e = .returned (.bool false) ∧ w = w' := by
  refine (within_any n m w).mono ?_
  rintro e w' ⟨rfl, rfl⟩
  exact ⟨ret_bool (by simp [withinB, h]), rfl⟩
end Go.Proofs.Ytlfnefgcndhomaa
