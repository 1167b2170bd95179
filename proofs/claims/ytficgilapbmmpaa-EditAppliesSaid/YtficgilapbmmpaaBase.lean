/-
  What all walks of this seat share: lists of edits as they lie in memory, what is kept from a base world on, and the small functions few, No and Check.
-/
import Derived.Test.YtficgilapbmmpaaRows
import Derived.WalkKit
import Derived.Below
import Derived.Deep.Draws
import Derived.Lib.Hide
import Derived.Handy
import Derived.RegionTactic
import Derived.ChangeAlike
import Derived.Deep.QuietTactic
import Derived.BigQuiet
namespace Go.Proofs.Ytficgilapbmmpaa
open Go.RowKit
set_option linter.unusedVariables false

theorem ret_bool {a b : Bool} (h : a = b) : Ending.returned (.bool a) = .returned (.bool b) := by rw [h]
theorem ret_int {k : IntKind} {a b : Int} (h : a = b) : Ending.returned (.int k a) = .returned (.int k b) := by rw [h]

/-- What was there below N in W0 is there in w, and w has as many blocks at least. -/
structure From (N : Nat) (W0 w : World) : Prop where
  size : N ≤ w.heap.size
  below : Below N W0 w
theorem From.step {N : Nat} {W0 w w1 : World} (h : From N W0 w) (hb : Below w.heap.size w w1) : From N W0 w1 :=
  ⟨Nat.le_trans h.size hb.size, h.below.trans (hb.mono h.size)⟩
theorem From.start (w : World) : From w.heap.size w w := ⟨Nat.le_refl _, Below.refl _ _⟩
theorem From.drew {N : Nat} {W0 w : World} (h : From N W0 w) : From N W0 w.drew := ⟨h.size, h.below.drew⟩
theorem From.alloc {N : Nat} {W0 w : World} (h : From N W0 w) (o : Obj) : From N W0 (w.alloc o) := ⟨by have := h.size; simp; omega, h.below.alloc h.size o⟩
theorem From.held {N : Nat} {W0 w : World} (h : From N W0 w) {b o : Nat} {v : Value} (hb : b < N) (hv : W0.cell? ⟨b, o, none⟩ = some v) : w.cell? ⟨b, o, none⟩ = some v :=
  (h.below.cell (p := ⟨b, o, none⟩) hb).trans hv
theorem From.drewN {N : Nat} {W0 w : World} (h : From N W0 w) (n : Nat) : From N W0 (w.drewN n) := ⟨h.size, ⟨h.below.os, h.below.tape, h.below.output, h.below.size, h.below.block⟩⟩

theorem below_drewN {N : Nat} {w w1 : World} (h : Below N w w1) (n : Nat) : Below N w (w1.drewN n) := ⟨h.os, h.tape, h.output, h.size, h.block⟩

/-- An edit. -/
structure Ed where
  a : Int
  e : Int
  t : ByteArray

instance : Inhabited Ed := ⟨⟨0, 0, ByteArray.empty⟩⟩
instance : DecidableEq Ed := fun x y =>
  if h : x.a = y.a ∧ x.e = y.e ∧ x.t = y.t then .isTrue (by cases x; cases y; simp_all) else .isFalse (fun g => h (by rw [g]; exact ⟨rfl, rfl, rfl⟩))

/-- Edits lie one behind the other from a place on. -/
def EditsAt (w : World) (b off : Nat) (l : List Ed) : Prop :=
  ∀ i, (h : i < l.length) → w.cell? ⟨b, off + i * 3, none⟩ = some (.int .i64 l[i].a) ∧ w.cell? ⟨b, off + i * 3 + 1, none⟩ = some (.int .i64 l[i].e) ∧ w.cell? ⟨b, off + i * 3 + 2, none⟩ = some (.string l[i].t)

/-- A slice value reads as these edits. -/
def EditsIn (w : World) (p : Option Addr) (n cap : Nat) (l : List Ed) : Prop :=
  n = l.length ∧ (n = 0 ∨ ∃ b off, p = some ⟨b, off, none⟩ ∧ n ≤ cap ∧ b < w.heap.size ∧ EditsAt w b off l)

theorem EditsAt.step {w w1 : World} {b off : Nat} {l : List Ed} (h : EditsAt w b off l) (hb : b < w.heap.size) (hw : Below w.heap.size w w1) : EditsAt w1 b off l := fun i hi => by
  obtain ⟨h0, h1, h2⟩ := h i hi
  exact ⟨(hw.cell (p := ⟨b, _, none⟩) hb).trans h0, (hw.cell (p := ⟨b, _, none⟩) hb).trans h1, (hw.cell (p := ⟨b, _, none⟩) hb).trans h2⟩
theorem EditsIn.step {w w1 : World} {p : Option Addr} {n cap : Nat} {l : List Ed} (h : EditsIn w p n cap l) (hw : Below w.heap.size w w1) : EditsIn w1 p n cap l := by
  obtain ⟨hn, h0 | ⟨b, off, hp, hc, hb, hat⟩⟩ := h
  · exact ⟨hn, .inl h0⟩
  · exact ⟨hn, .inr ⟨b, off, hp, hc, Nat.lt_of_lt_of_le hb hw.size, hat.step hb hw⟩⟩
theorem EditsIn.from {N : Nat} {w w1 : World} {p : Option Addr} {n cap : Nat} {l : List Ed} (h : EditsIn w p n cap l) (hN : w.heap.size ≤ N) (hw : From N w w1) : EditsIn w1 p n cap l :=
  h.step (hw.below.mono hN)

/-- Does an edit lie in a text of n bytes? -/
def Ed.lies (n : Int) (x : Ed) : Prop := 0 ≤ x.a ∧ x.a ≤ x.e ∧ x.e ≤ n
instance (n : Int) (x : Ed) : Decidable (x.lies n) := by unfold Ed.lies; exact inferInstance
def Apart (l : List Ed) : Prop := ∀ i, (h : i + 1 < l.length) → l[i].e < l[i + 1].a
def apartB : List Ed → Bool
  | x :: y :: r => decide (x.e < y.a) && apartB (y :: r)
  | _ => true
theorem apartB_iff : ∀ l : List Ed, apartB l = true ↔ Apart l
  | [] => ⟨fun _ i h => absurd h (by simp), fun _ => rfl⟩
  | [_] => ⟨fun _ i h => absurd h (by simp), fun _ => rfl⟩
  | x :: y :: r => by
    simp only [apartB, Bool.and_eq_true, decide_eq_true_eq]
    rw [apartB_iff (y :: r)]
    refine ⟨fun ⟨h1, h2⟩ i h => ?_, fun h => ⟨h 0 (by simp), fun i hi => h (i + 1) (by simpa using hi)⟩⟩
    match i, h with
    | 0, _ => exact h1
    | i + 1, h => exact h2 i (by simpa using h)
/-- What is wrong with edits. -/
def checkN (n : Int) (l : List Ed) : Int :=
  if n < 0 then 2 else if (∀ x ∈ l, x.lies n) then (if apartB l = true then 0 else 3) else 2

theorem no_any (x : Int) (w : World) : Calls Try.prog 13 #[.int .i64 x] w fun e w' => e = .returned (.int .i64 x) ∧ w = w' := by
  go_enter Try.func13, Try.ntmps13
  go_wp2
  go_ret
  exact ⟨rfl, rfl⟩
end Go.Proofs.Ytficgilapbmmpaa
