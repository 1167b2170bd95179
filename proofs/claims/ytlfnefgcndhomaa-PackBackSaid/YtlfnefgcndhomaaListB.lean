/-
  A list's bytes: the plain facts.
-/
import Derived.Test.YtlfnefgcndhomaaDec
import Derived.Test.YtlfnefgcndhomaaZig
namespace Go.Proofs.Ytlfnefgcndhomaa
set_option linter.unusedVariables false

def putL : List Int → List UInt8
  | [] => []
  | x :: r => Lib.uvarint (zigN x) ++ putL r
/-- A list's bytes. -/
def bytesOf (l : List Int) : List UInt8 := Lib.uvarint l.length ++ putL l
def I64 (l : List Int) : Prop := ∀ x ∈ l, -9223372036854775808 ≤ x ∧ x ≤ 9223372036854775807
theorem putL_snoc (l : List Int) (x : Int) : putL (l ++ [x]) = putL l ++ Lib.uvarint (zigN x) := by
  induction l with
  | nil => simp [putL]
  | cons y r ih => simp [putL, ih]
theorem putL_length {l : List Int} (h : I64 l) : l.length ≤ (putL l).length ∧ (putL l).length ≤ 10 * l.length := by
  induction l with
  | nil => simp [putL]
  | cons y r ih =>
    have hy := h y (by simp)
    have h1 := Lib.uvarint_pos (zigN y)
    have h2 := Lib.uvarint_length64 (zigN_lt hy.1 hy.2)
    have h3 := ih (fun x hx => h x (by simp [hx]))
    simp only [putL, List.length_append, List.length_cons]
    omega
theorem bytesOf_length {l : List Int} (h : I64 l) (hl : l.length ≤ 1000000) : (bytesOf l).length ≤ 10 * l.length + 10 := by
  have h1 := putL_length h
  have h2 := Lib.uvarint_length64 (x := l.length) (by omega)
  simp only [bytesOf, List.length_append]
  omega

/-- So many numbers read, and what is left. -/
def decs : Nat → List UInt8 → Option (List Int × List UInt8)
  | 0, r => some ([], r)
  | k + 1, r => match dec 0 r with
    | none => none
    | some p => (decs k (r.drop p.2)).map fun q => (zagI p.1 :: q.1, q.2)
theorem decs_put : ∀ (l : List Int) (r : List UInt8), I64 l → decs l.length (putL l ++ r) = some (l, r)
  | [], r, _ => rfl
  | x :: t, r, h => by
    have hx := h x (by simp)
    have hd := dec_put (zigN x) (putL t ++ r) (zigN_lt hx.1 hx.2)
    rw [← List.append_assoc] at hd
    simp only [putL, List.length_cons, decs, hd]
    rw [List.append_assoc, List.drop_left, decs_put t r (fun y hy => h y (by simp [hy]))]
    simp [zag_zig]
theorem decs_some : ∀ (k : Nat) (r : List UInt8) (l : List Int) (r' : List UInt8), decs k r = some (l, r') → r = putL l ++ r' ∧ l.length = k ∧ I64 l
  | 0, r, l, r', h => by
    simp only [decs, Option.some.injEq, Prod.mk.injEq] at h
    obtain ⟨rfl, rfl⟩ := h
    exact ⟨rfl, rfl, fun x hx => by simp at hx⟩
  | k + 1, r, l, r', h => by
    simp only [decs] at h
    cases hd : dec 0 r with
    | none => rw [hd] at h; simp at h
    | some p =>
      rw [hd] at h
      simp only [Option.map_eq_some_iff] at h
      obtain ⟨q, h1, h2⟩ := h
      simp only [Prod.mk.injEq] at h2
      obtain ⟨rfl, rfl⟩ := h2
      obtain ⟨i1, i2, i3⟩ := decs_some k (r.drop p.2) q.1 q.2 h1
      obtain ⟨a1, a2, a3, a4, a5, a6⟩ := dec_some r 0 p.1 p.2 hd
      refine ⟨?_, by simp [i2], ?_⟩
      · simp only [putL, zig_zag]
        rw [← a6, List.append_assoc, ← i1, List.take_append_drop]
      · intro x hx
        rcases List.mem_cons.1 hx with rfl | hx
        · exact zagI_range (by omega)
        · exact i3 x hx
/-- The list whose bytes these are. -/
def intsOf (b : List UInt8) : Option (List Int) :=
  match dec 0 b with
  | none => none
  | some p => if p.1 ≤ (b.drop p.2).length then (match decs p.1 (b.drop p.2) with | some (l, []) => some l | _ => none) else none
theorem intsOf_put (l : List Int) (h : I64 l) (hl : l.length < 18446744073709551616) : intsOf (bytesOf l) = some l := by
  unfold intsOf bytesOf
  rw [dec_put l.length (putL l) hl]
  simp only [List.drop_left]
  rw [if_pos (putL_length h).1]
  have := decs_put l [] h
  rw [List.append_nil] at this
  rw [this]
theorem intsOf_some {b : List UInt8} {l : List Int} (h : intsOf b = some l) : bytesOf l = b ∧ I64 l ∧ l.length ≤ b.length := by
  unfold intsOf at h
  cases hd : dec 0 b with
  | none => rw [hd] at h; simp at h
  | some p =>
    rw [hd] at h
    simp only at h
    obtain ⟨a1, a2, a3, a4, a5, a6⟩ := dec_some b 0 p.1 p.2 hd
    split at h
    · rename_i hle
      split at h
      · rename_i l' heq
        simp only [Option.some.injEq] at h
        subst h
        obtain ⟨i1, i2, i3⟩ := decs_some _ _ _ _ heq
        rw [List.append_nil] at i1
        refine ⟨?_, i3, ?_⟩
        · unfold bytesOf
          rw [i2, ← a6, ← i1, List.take_append_drop]
        · rw [i2]
          simp at hle
          omega
      · simp at h
    · simp at h
/-- What a round of Ints knows. -/
structure Reading (b : List UInt8) (cnt k : Nat) (l : List Int) (r : List UInt8) : Prop where
  le : k ≤ cnt
  len : l.length = k
  rest : r.length + k ≤ b.length
  eq : intsOf b = (match decs (cnt - k) r with | some (m, []) => some (l ++ m) | _ => none)
theorem Reading.start {b : List UInt8} {v j : Nat} (h : dec 0 b = some (v, j)) (hv : v ≤ (b.drop j).length) : Reading b v 0 [] (b.drop j) := by
  refine ⟨by omega, rfl, by simp, ?_⟩
  unfold intsOf
  rw [h]
  simp only
  rw [if_pos hv]
  simp
theorem Reading.next {b : List UInt8} {cnt k v j : Nat} {l : List Int} {r : List UInt8} (h : Reading b cnt k l r) (hk : k < cnt) (hd : dec 0 r = some (v, j)) : Reading b cnt (k + 1) (l ++ [zagI v]) (r.drop j) := by
  have h2 := h.rest
  obtain ⟨a1, a2, a3, a4, a5, a6⟩ := dec_some r 0 v j hd
  refine ⟨by omega, by simp [h.len], by simp; omega, ?_⟩
  rw [h.eq, show cnt - k = (cnt - (k + 1)) + 1 by omega]
  simp only [decs, hd]
  cases decs (cnt - (k + 1)) (r.drop j) with
  | none => rfl
  | some q =>
    obtain ⟨m, s⟩ := q
    cases s with
    | nil => simp
    | cons c t => simp
theorem Reading.fail {b : List UInt8} {cnt k : Nat} {l : List Int} {r : List UInt8} (h : Reading b cnt k l r) (hk : k < cnt) (hd : dec 0 r = none) : intsOf b = none := by
  rw [h.eq, show cnt - k = (cnt - (k + 1)) + 1 by omega]
  simp only [decs, hd]
theorem Reading.done {b : List UInt8} {cnt : Nat} {l : List Int} {r : List UInt8} (h : Reading b cnt cnt l r) : intsOf b = if r = [] then some l else none := by
  rw [h.eq, Nat.sub_self]
  simp only [decs]
  cases r with
  | nil => simp
  | cons c t => simp
theorem intsOf_bad {b : List UInt8} (h : dec 0 b = none) : intsOf b = none := by unfold intsOf; rw [h]
theorem intsOf_much {b : List UInt8} {v j : Nat} (h : dec 0 b = some (v, j)) (hv : ¬ v ≤ (b.drop j).length) : intsOf b = none := by unfold intsOf; rw [h]; simp only; rw [if_neg hv]
end Go.Proofs.Ytlfnefgcndhomaa
