/-
  The document's Kept goes over the bytes one by one: what it has then is what is told of the pieces.
-/
import Derived.Test.YtficgilapbmmpaaRowsOf
import Derived.Test.YtficgilapbmmpaaCount
namespace Go.Proofs.Ytficgilapbmmpaa
open Go.RowKit
set_option linter.unusedVariables false

/-- The last stretch, up to another end. -/
def extend (R : List Str) (b : Nat) : List Str :=
  match R.getLast? with
  | some x => R.dropLast ++ [⟨x.a, b, x.t⟩]
  | none => R
theorem extend_snoc (R : List Str) (x : Str) (b : Nat) : extend (R ++ [x]) b = R ++ [⟨x.a, b, x.t⟩] := by
  simp [extend]

/-- Does no edit begin at a place? -/
def clearB (i : Nat) (l : List Ed) : Bool := l.all fun x => !(x.a == (i : Int))

structure Kst where
  R : List Str
  o : Bool

def stepK (l : List Ed) (i : Nat) (S : Kst) : Kst :=
  if takenB i l then ⟨S.R, false⟩
  else if S.o && clearB i l then ⟨extend S.R (i + 1), true⟩
  else ⟨S.R ++ [⟨i, i + 1, (mapL l 0 i).1.toNat⟩], true⟩
def runK (l : List Ed) : Nat → Nat → Kst → Kst
  | _, 0, S => S
  | o, c + 1, S => runK l (o + 1) c (stepK l o S)
theorem runK_add (l : List Ed) (c d : Nat) : ∀ (o : Nat) (S : Kst), runK l o (c + d) S = runK l (o + c) d (runK l o c S) := by
  induction c with
  | zero => intro o S; simp [runK]
  | succ c ih =>
    intro o S
    rw [show c + 1 + d = (c + d) + 1 from by omega]
    simp only [runK]
    rw [ih, show o + 1 + c = o + (c + 1) from by omega]
theorem runK_snoc (l : List Ed) (k : Nat) (S : Kst) : runK l 0 (k + 1) S = stepK l k (runK l 0 k S) := by
  rw [runK_add]; simp [runK]

theorem run_kept (l : List Ed) (o m c : Nat) (R : List Str) (hc : ∀ i, o < i → i < o + c → clearB i l = true) (ht : ∀ i, o ≤ i → i < o + c → takenB i l = false) (hm : ∀ i, o ≤ i → i < o + c → (mapL l 0 i).1.toNat = m + (i - o)) :
    ∀ j, j < c → runK l (o + 1) j ⟨R ++ [⟨o, o + 1, m⟩], true⟩ = ⟨R ++ [⟨o, o + 1 + j, m⟩], true⟩ := by
  intro j
  induction j with
  | zero => intro _; rfl
  | succ j ih =>
    intro hj
    rw [runK_add l j 1, ih (by omega)]
    simp only [runK, stepK]
    rw [ht (o + 1 + j) (by omega) (by omega), hc (o + 1 + j) (by omega) (by omega)]
    simp only [Bool.true_and, if_true]
    rw [extend_snoc]
    rfl

theorem run_range (l : List Ed) (o m c : Nat) (S : Kst) (h0 : 0 < c) (hs : (S.o && clearB o l) = false) (hc : ∀ i, o < i → i < o + c → clearB i l = true) (ht : ∀ i, o ≤ i → i < o + c → takenB i l = false) (hm : ∀ i, o ≤ i → i < o + c → (mapL l 0 i).1.toNat = m + (i - o)) :
    runK l o c S = ⟨S.R ++ [⟨o, o + c, m⟩], true⟩ := by
  obtain ⟨d, rfl⟩ : ∃ d, c = d + 1 := ⟨c - 1, by omega⟩
  simp only [runK, stepK]
  rw [ht o (by omega) (by omega), hs, hm o (by omega) (by omega)]
  simp only [Bool.false_eq_true, if_false, Nat.sub_self, Nat.add_zero]
  rw [run_kept l o m (d + 1) S.R hc ht hm d (by omega), show o + 1 + d = o + (d + 1) from by omega]
theorem run_taken (l : List Ed) (p d : Nat) (ht : ∀ i, p ≤ i → i < p + d → takenB i l = true) : ∀ S : Kst, 0 < d → runK l p d S = ⟨S.R, false⟩ := by
  induction d generalizing p with
  | zero => intro S h; omega
  | succ d ih =>
    intro S _
    simp only [runK, stepK]
    rw [ht p (by omega) (by omega)]
    simp only [if_true]
    by_cases hd : 0 < d
    · rw [ih (p + 1) (fun i h1 h2 => ht i (by omega) (by omega)) _ hd]
    · have : d = 0 := by omega
      subst this
      rfl

theorem edits_append (a b : List Seg) (o : Nat) : edits o (a ++ b) = edits o a ++ edits (o + (orig a).length) b := by
  induction a generalizing o with
  | nil => simp [edits, orig]
  | cons x r ih =>
    simp only [List.cons_append, edits, ih, orig, List.length_append]
    rw [show o + x.k.length + x.d.length + (orig r).length = o + (x.k.length + (x.d.length + (orig r).length)) from by omega]
theorem takenB_append (i : Int) (a b : List Ed) : takenB i (a ++ b) = (takenB i a || takenB i b) := by
  induction a with
  | nil => simp [takenB]
  | cons x r ih => simp only [List.cons_append, takenB, ih, Bool.or_assoc]
theorem clearB_append (i : Nat) (a b : List Ed) : clearB i (a ++ b) = (clearB i a && clearB i b) := by simp [clearB]
theorem behind_taken (xs : List Seg) : ∀ (o : Nat) (i : Int), ((o + (orig xs).length : Nat) : Int) ≤ i → takenB i (edits o xs) = false := by
  induction xs with
  | nil => intro o i _; rfl
  | cons x r ih =>
    intro o i h
    simp only [orig, List.length_append] at h
    simp only [edits, takenB, ih (o + x.k.length + x.d.length) i (by omega)]
    simp
    omega
theorem behind_clear (xs : List Seg) : ∀ (o i : Nat), o + (orig xs).length < i → clearB i (edits o xs) = true := by
  induction xs with
  | nil => intro o i _; rfl
  | cons x r ih =>
    intro o i h
    simp only [orig, List.length_append] at h
    have := ih (o + x.k.length + x.d.length) i (by omega)
    simp only [clearB, edits, List.all_cons, Bool.and_eq_true] at *
    refine ⟨?_, this⟩
    simp
    omega
theorem front_clear (xs : List Seg) : ∀ (o i : Nat), i < o → clearB i (edits o xs) = true := by
  induction xs with
  | nil => intro o i _; rfl
  | cons x r ih =>
    intro o i h
    have := ih (o + x.k.length + x.d.length) i (by omega)
    simp only [clearB, edits, List.all_cons, Bool.and_eq_true] at *
    refine ⟨?_, this⟩
    simp
    omega
theorem mapL_append (xs : List Seg) (B : List Ed) : ∀ (o : Nat) (sh i : Int), ((o + (orig xs).length : Nat) : Int) ≤ i → mapL (edits o xs ++ B) sh i = mapL B (sh + ((made xs).length - (orig xs).length)) i := by
  induction xs with
  | nil => intro o sh i _; simp [edits, made, orig]
  | cons x r ih =>
    intro o sh i h
    simp only [orig, made, List.length_append] at h ⊢
    simp only [edits, List.cons_append]
    rw [mapL_on (by show ¬ (i < ((o + x.k.length : Nat) : Int)); omega) (by show ¬ (i < ((o + x.k.length + x.d.length : Nat) : Int)); omega)]
    rw [ih (o + x.k.length + x.d.length) _ i (by omega)]
    have e : sh + (((⟨x.i.toArray⟩ : ByteArray).size : Int) - (((o + x.k.length + x.d.length : Nat) : Int) - ((o + x.k.length : Nat) : Int))) + (((made r).length : Int) - (orig r).length) = sh + (((x.k.length + (x.i.length + (made r).length) : Nat) : Int) - ((x.k.length + (x.d.length + (orig r).length) : Nat) : Int)) := by rw [size_mk]; omega
    exact congrArg (fun z => mapL B z i) e

theorem run_segs (all : List Seg) : ∀ (pre ys : List Seg), all = pre ++ ys → ∀ S : Kst, (S.o && clearB (orig pre).length (edits 0 all)) = false →
    ∃ f, runK (edits 0 all) (orig pre).length (orig ys).length S = ⟨S.R ++ keptR (orig pre).length (made pre).length ys, f⟩ ∧ (f && clearB (orig all).length (edits 0 all)) = false := by
  intro pre ys
  induction ys generalizing pre with
  | nil =>
    intro h S hS
    have : all = pre := by rw [h]; simp
    subst this
    exact ⟨S.o, by simp [orig, runK, keptR], hS⟩
  | cons x r ih =>
    intro h S hS
    have hl : edits 0 all = edits 0 pre ++ edits (orig pre).length (x :: r) := by rw [h, edits_append]; simp
    have h2 : all = (pre ++ [x]) ++ r := by rw [h]; simp
    have ho : (orig (pre ++ [x])).length = (orig pre).length + x.k.length + x.d.length := by rw [orig_append]; simp [orig]; omega
    have hm : (made (pre ++ [x])).length = (made pre).length + x.k.length + x.i.length := by rw [made_append]; simp [made]; omega
    have lowr := edits_low r ((orig pre).length + x.k.length + x.d.length)
    -- the bytes that are kept
    have tk : ∀ i, (orig pre).length ≤ i → i < (orig pre).length + x.k.length → takenB i (edits 0 all) = false := fun i h3 h4 => by
      rw [hl, takenB_append, behind_taken pre 0 i (by omega)]
      simp only [edits, takenB, (lowr i (by omega)).1]
      simp
      omega
    have ck : ∀ i, (orig pre).length < i → i < (orig pre).length + x.k.length → clearB i (edits 0 all) = true := fun i h3 h4 => by
      rw [hl, clearB_append, behind_clear pre 0 i (by omega)]
      have := front_clear r ((orig pre).length + x.k.length + x.d.length) i (by omega)
      simp only [clearB, edits, List.all_cons, Bool.true_and, Bool.and_eq_true] at *
      refine ⟨?_, this⟩
      simp
      omega
    have mk : ∀ i, (orig pre).length ≤ i → i < (orig pre).length + x.k.length → (mapL (edits 0 all) 0 i).1.toNat = (made pre).length + (i - (orig pre).length) := fun i h3 h4 => by
      rw [hl, mapL_append pre _ 0 0 i (by omega)]
      simp only [edits]
      rw [mapL_here (by show (i : Int) < (((orig pre).length + x.k.length : Nat) : Int); omega)]
      show ((i : Int) + (0 + ((made pre).length - (orig pre).length))).toNat = _
      omega
    have td : ∀ i, (orig pre).length + x.k.length ≤ i → i < (orig pre).length + x.k.length + x.d.length → takenB i (edits 0 all) = true := fun i h3 h4 => by
      rw [hl, takenB_append]
      simp only [edits, takenB, Bool.or_eq_true, Bool.and_eq_true, decide_eq_true_eq]
      exact .inr (.inl ⟨by omega, by omega⟩)
    have he : clearB ((orig pre).length + x.k.length) (edits 0 all) = false := by
      rw [hl, clearB_append]
      simp only [clearB, edits, List.all_cons]
      simp
    -- over the kept bytes
    obtain ⟨f1, hf1⟩ : ∃ f1, runK (edits 0 all) (orig pre).length x.k.length S = ⟨S.R ++ (if 0 < x.k.length then [⟨(orig pre).length, (orig pre).length + x.k.length, (made pre).length⟩] else []), f1⟩ := by
      by_cases hk : 0 < x.k.length
      · rw [if_pos hk]
        exact ⟨true, run_range _ _ _ _ S hk hS ck tk mk⟩
      · rw [if_neg hk, show x.k.length = 0 from by omega]
        exact ⟨S.o, by simp [runK]⟩
    -- over the taken bytes
    obtain ⟨f2, hf2, hf3⟩ : ∃ f2, runK (edits 0 all) ((orig pre).length + x.k.length) x.d.length ⟨S.R ++ (if 0 < x.k.length then [⟨(orig pre).length, (orig pre).length + x.k.length, (made pre).length⟩] else []), f1⟩ = ⟨S.R ++ (if 0 < x.k.length then [⟨(orig pre).length, (orig pre).length + x.k.length, (made pre).length⟩] else []), f2⟩ ∧ (f2 && clearB (orig (pre ++ [x])).length (edits 0 all)) = false := by
      by_cases hd : 0 < x.d.length
      · exact ⟨false, run_taken _ _ _ td _ hd, by simp⟩
      · have hd0 : x.d.length = 0 := by omega
        rw [hd0]
        refine ⟨f1, by simp [runK], ?_⟩
        rw [ho, hd0, Nat.add_zero, he]
        simp
    obtain ⟨f, hf4, hf5⟩ := ih (pre ++ [x]) h2 ⟨_, f2⟩ hf3
    refine ⟨f, ?_, hf5⟩
    have hlen : (orig (x :: r)).length = x.k.length + (x.d.length + (orig r).length) := by simp [orig]
    rw [hlen, runK_add, hf1, runK_add, hf2]
    rw [ho] at hf4
    rw [hf4, hm]
    simp only [keptR, List.append_assoc]

theorem run_all (xs : List Seg) (last : List UInt8) : (runK (edits 0 xs) 0 (orig xs ++ last).length ⟨[], false⟩).R = told xs (orig xs ++ last).length := by
  obtain ⟨f, h1, h2⟩ := run_segs xs [] xs (by simp) ⟨[], false⟩ (by simp)
  simp only [orig, made, List.length_nil, List.nil_append] at h1
  rw [List.length_append, runK_add, Nat.zero_add, h1]
  simp only [told, lastR]
  by_cases hl : 0 < last.length
  · rw [if_pos (by omega)]
    have := run_range (edits 0 xs) (orig xs).length (made xs).length last.length ⟨keptR 0 0 xs, f⟩ hl h2 (fun i h3 h4 => behind_clear xs 0 i (by omega)) (fun i h3 h4 => behind_taken xs 0 i (by omega)) (fun i h3 h4 => by
      have := mapL_append xs [] 0 0 i (by omega)
      rw [List.append_nil] at this
      rw [this]
      show ((i : Int) + (0 + ((made xs).length - (orig xs).length))).toNat = _
      omega)
    rw [this]
  · rw [if_neg (by omega), show last.length = 0 from by omega]
    simp [runK]
end Go.Proofs.Ytficgilapbmmpaa
