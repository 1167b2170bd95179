/-
  Where a byte is then: counted from the text's beginning, it is where the edits, gone through in order, say.
-/
import Derived.Test.YtficgilapbmmpaaMap
import Derived.Test.YtficgilapbmmpaaRefCheck
namespace Go.Proofs.Ytficgilapbmmpaa
open Go.RowKit
set_option linter.unusedVariables false

def takenB (i : Int) : List Ed → Bool
  | [] => false
  | x :: r => (decide (x.a ≤ i) && decide (i < x.e)) || takenB i r
theorem takenB_iff (i : Int) : ∀ l : List Ed, takenB i l = true ↔ TakenBy i l
  | [] => ⟨fun h => by simp [takenB] at h, fun ⟨j, h, _⟩ => absurd h (by simp)⟩
  | x :: r => by
    simp only [takenB, Bool.or_eq_true, Bool.and_eq_true, decide_eq_true_eq, takenB_iff i r]
    refine ⟨fun h => ?_, fun ⟨j, hj, h⟩ => ?_⟩
    · rcases h with h | ⟨j, hj, h⟩
      · exact ⟨0, by simp, h⟩
      · exact ⟨j + 1, by simpa using hj, h⟩
    · cases j with
      | zero => exact .inl h
      | succ j => exact .inr ⟨j, by simpa using hj, h⟩

/-- How many of the first numbers are not taken. -/
def cntN (f : Nat → Bool) : Nat → Nat
  | 0 => 0
  | k + 1 => cntN f k + if f k then 0 else 1
theorem cntN_le (f : Nat → Bool) (k : Nat) : cntN f k ≤ k := by
  induction k with
  | zero => simp [cntN]
  | succ k ih => simp only [cntN]; split <;> omega
theorem cntN_all (f : Nat → Bool) (k : Nat) (h : ∀ i, i < k → f i = false) : cntN f k = k := by
  induction k with
  | zero => rfl
  | succ k ih => simp only [cntN, h k (by omega)]; rw [ih fun i hi => h i (by omega)]; simp
theorem cntN_none (f : Nat → Bool) (p d : Nat) (h : ∀ i, p ≤ i → i < p + d → f i = true) : cntN f (p + d) = cntN f p := by
  induction d with
  | zero => rfl
  | succ d ih => rw [show p + (d + 1) = p + d + 1 from by omega]; simp only [cntN, h (p + d) (by omega) (by omega)]; rw [ih fun i h1 h2 => h i h1 (by omega)]; simp
theorem cntN_same (f g : Nat → Bool) (p m d : Nat) (h : ∀ i, p ≤ i → f i = g i) (h0 : cntN f p + d = cntN g p) : cntN f (p + m) + d = cntN g (p + m) := by
  induction m with
  | zero => exact h0
  | succ m ih => rw [show p + (m + 1) = p + m + 1 from by omega]; simp only [cntN, h (p + m) (by omega)]; split <;> omega

/-- The bytes that edits put ahead of what stands behind a place. -/
def insL (i : Int) : List Ed → Nat
  | [] => 0
  | x :: r => (if x.a ≤ i then x.t.size else 0) + insL i r

theorem edits_low (xs : List Seg) : ∀ (o : Nat) (i : Int), i < o → takenB i (edits o xs) = false ∧ insL i (edits o xs) = 0 := by
  induction xs with
  | nil => intro o i h; exact ⟨rfl, rfl⟩
  | cons x r ih =>
    intro o i h
    obtain ⟨h1, h2⟩ := ih (o + x.k.length + x.d.length) i (by omega)
    simp only [edits, takenB, insL, h1, h2]
    rw [if_neg (by omega)]
    refine ⟨?_, rfl⟩
    simp
    omega

theorem size_mk (l : List UInt8) : (⟨l.toArray⟩ : ByteArray).size = l.length := by show l.toArray.size = _; rw [List.size_toArray]

theorem mapL_taken_all (xs : List Seg) : ∀ (o : Nat) (sh : Int) (i : Nat), o ≤ i → takenB i (edits o xs) = true → mapL (edits o xs) sh i = (0, false) := by
  induction xs with
  | nil => intro o sh i _ h; simp [edits, takenB] at h
  | cons x r ih =>
    intro o sh i hoi h
    by_cases h1 : i < o + x.k.length
    · have hr := (edits_low r (o + x.k.length + x.d.length) i (by omega)).1
      simp only [edits, takenB, hr, Bool.or_false, Bool.and_eq_true, decide_eq_true_eq] at h
      omega
    · by_cases h2 : i < o + x.k.length + x.d.length
      · simp only [edits]
        exact mapL_taken (by show ¬ ((i : Int) < ((o + x.k.length : Nat) : Int)); omega) (by show (i : Int) < ((o + x.k.length + x.d.length : Nat) : Int); omega)
      · simp only [edits]
        rw [mapL_on (by show ¬ ((i : Int) < ((o + x.k.length : Nat) : Int)); omega) (by show ¬ ((i : Int) < ((o + x.k.length + x.d.length : Nat) : Int)); omega)]
        refine ih _ _ i (by omega) ?_
        simp only [edits, takenB, Bool.or_eq_true, Bool.and_eq_true, decide_eq_true_eq] at h
        rcases h with h | h
        · omega
        · exact h

theorem mapL_count (xs : List Seg) : ∀ (o : Nat) (sh : Int) (i : Nat), o ≤ i → takenB i (edits o xs) = false → mapL (edits o xs) sh i = (sh + cntN (fun j => takenB j (edits o xs)) i + insL i (edits o xs), true) := by
  induction xs with
  | nil =>
    intro o sh i hoi _
    have : cntN (fun j => takenB j (edits o [])) i = i := cntN_all _ _ fun _ _ => rfl
    rw [this]
    simp [edits, mapL, insL]
    omega
  | cons x r ih =>
    intro o sh i hoi h
    have low := edits_low (x :: r) o
    have lowr := edits_low r (o + x.k.length + x.d.length)
    have hx : ∀ j : Nat, takenB j (edits o (x :: r)) = ((decide (o + x.k.length ≤ j) && decide (j < o + x.k.length + x.d.length)) || takenB j (edits (o + x.k.length + x.d.length) r)) := fun j => by
      simp only [edits, takenB]
      congr 2
      · rw [Bool.eq_iff_iff]; simp only [decide_eq_true_eq]; omega
      · rw [Bool.eq_iff_iff]; simp only [decide_eq_true_eq]; omega
    by_cases h1 : i < o + x.k.length
    · have hc : cntN (fun j => takenB j (edits o (x :: r))) i = i := cntN_all _ _ fun j hj => by
        show takenB j (edits o (x :: r)) = false
        rw [hx j, (lowr j (by omega)).1]
        simp
        omega
      have hi : insL i (edits o (x :: r)) = 0 := by
        simp only [edits, insL, (lowr i (by omega)).2]
        rw [if_neg (by omega)]
      rw [hc, hi]
      simp only [edits]
      rw [mapL_here (by show (i : Int) < ((o + x.k.length : Nat) : Int); omega)]
      congr 1
      omega
    · by_cases h2 : i < o + x.k.length + x.d.length
      · rw [hx i] at h
        simp only [Bool.or_eq_false_iff, Bool.and_eq_false_iff, decide_eq_false_iff_not] at h
        omega
      · have hr : takenB i (edits (o + x.k.length + x.d.length) r) = false := by
          rw [hx i] at h
          simp only [Bool.or_eq_false_iff] at h
          exact h.2
        have hI := ih (o + x.k.length + x.d.length) (sh + (x.i.length - x.d.length)) i (by omega) hr
        have c1 : cntN (fun j => takenB j (edits o (x :: r))) (o + x.k.length) = o + x.k.length := cntN_all _ _ fun j hj => by
          show takenB j (edits o (x :: r)) = false
          rw [hx j, (lowr j (by omega)).1]
          simp
          omega
        have c2 : cntN (fun j => takenB j (edits o (x :: r))) (o + x.k.length + x.d.length) = o + x.k.length := by
          rw [cntN_none _ (o + x.k.length) x.d.length fun j h1 h2 => by
            show takenB j (edits o (x :: r)) = true
            rw [hx j]; simp; omega]
          exact c1
        have c3 : cntN (fun j => takenB j (edits (o + x.k.length + x.d.length) r)) (o + x.k.length + x.d.length) = o + x.k.length + x.d.length := cntN_all _ _ fun j hj => (lowr j (by omega)).1
        have c4 := cntN_same (fun j => takenB j (edits o (x :: r))) (fun j => takenB j (edits (o + x.k.length + x.d.length) r)) (o + x.k.length + x.d.length) (i - (o + x.k.length + x.d.length)) x.d.length (fun j hj => by
          show takenB j (edits o (x :: r)) = _
          rw [hx j]
          have : decide (j < o + x.k.length + x.d.length) = false := by simp; omega
          rw [this]; simp) (by rw [c2, c3])
        rw [show o + x.k.length + x.d.length + (i - (o + x.k.length + x.d.length)) = i from by omega] at c4
        have hi : insL i (edits o (x :: r)) = x.i.length + insL i (edits (o + x.k.length + x.d.length) r) := by
          simp only [edits, insL]
          rw [if_pos (by omega), size_mk]
        rw [hi]
        simp only [edits]
        rw [mapL_on (by show ¬ ((i : Int) < ((o + x.k.length : Nat) : Int)); omega) (by show ¬ ((i : Int) < ((o + x.k.length + x.d.length : Nat) : Int)); omega)]
        have hsh : sh + (((⟨x.i.toArray⟩ : ByteArray).size : Int) - (((o + x.k.length + x.d.length : Nat) : Int) - ((o + x.k.length : Nat) : Int))) = sh + (x.i.length - x.d.length) := by rw [size_mk]; omega
        show mapL (edits (o + x.k.length + x.d.length) r) (sh + (((⟨x.i.toArray⟩ : ByteArray).size : Int) - (((o + x.k.length + x.d.length : Nat) : Int) - ((o + x.k.length : Nat) : Int)))) i = _
        rw [hsh, hI]
        congr 1
        simp only [edits] at c4
        omega
end Go.Proofs.Ytficgilapbmmpaa
