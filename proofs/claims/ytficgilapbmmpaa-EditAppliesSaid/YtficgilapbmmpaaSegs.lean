/-
  Edits that are right, as pieces of the text: what is kept, what is taken, what is put in.
-/
import Derived.Test.YtficgilapbmmpaaCheck
import Derived.Test.YtficgilapbmmpaaFew
namespace Go.Proofs.Ytficgilapbmmpaa

structure Seg where
  k : List UInt8
  d : List UInt8
  i : List UInt8

def orig : List Seg → List UInt8
  | [] => []
  | x :: r => x.k ++ (x.d ++ orig r)
def made : List Seg → List UInt8
  | [] => []
  | x :: r => x.k ++ (x.i ++ made r)
def edits (o : Nat) : List Seg → List Ed
  | [] => []
  | x :: r => ⟨((o + x.k.length : Nat) : Int), ((o + x.k.length + x.d.length : Nat) : Int), ⟨x.i.toArray⟩⟩ :: edits (o + x.k.length + x.d.length) r
/-- Between each two edits lies a byte, and g bytes ahead of the first one. -/
def Gap : Nat → List Seg → Prop
  | _, [] => True
  | g, x :: r => g ≤ x.k.length ∧ Gap 1 r
def Chain (n : Int) : Int → List Ed → Prop
  | _, [] => True
  | o, x :: r => o ≤ x.a ∧ x.a ≤ x.e ∧ x.e ≤ n ∧ Chain n (x.e + 1) r

theorem chain_of {n : Int} : ∀ (l : List Ed) (o : Int), (∀ i, (h : i < l.length) → l[i].lies n) → Apart l → (∀ h : 0 < l.length, o ≤ (l[0]'h).a) → Chain n o l
  | [], _, _, _, _ => trivial
  | x :: r, o, h1, h2, h3 => by
    have hx : x.lies n := h1 0 (by simp)
    refine ⟨h3 (by simp), hx.2.1, hx.2.2, chain_of r _ (fun i hi => h1 (i + 1) (by simpa using hi)) (fun i hi => h2 (i + 1) (by simpa using hi)) (fun h => ?_)⟩
    have : x.e < (r[0]'h).a := h2 0 (by simpa using h)
    omega

theorem lies_of_chain {n : Int} : ∀ (l : List Ed) (o : Int), 0 ≤ o → Chain n o l → ∀ i, (h : i < l.length) → l[i].lies n
  | [], _, _, _, i, h => absurd h (by simp)
  | x :: r, o, ho, ⟨h1, h2, h3, h4⟩, i, h => by
    match i, h with
    | 0, _ => exact ⟨by show 0 ≤ x.a; omega, h2, h3⟩
    | i + 1, h => exact lies_of_chain r _ (by omega) h4 i (by simpa using h)
theorem apart_of_chain {n : Int} : ∀ (l : List Ed) (o : Int), Chain n o l → Apart l
  | [], _, _, i, h => absurd h (by simp)
  | [_], _, _, i, h => absurd h (by simp)
  | x :: y :: r, o, ⟨h1, h2, h3, h4⟩, i, h => by
    match i, h with
    | 0, _ => have : x.e + 1 ≤ y.a := h4.1; show x.e < y.a; omega
    | i + 1, h => exact apart_of_chain (y :: r) _ h4 i (by simpa using h)
theorem checkN_of_chain {n : Int} {l : List Ed} (hn : 0 ≤ n) (h : Chain n 0 l) : checkN n l = 0 :=
  checkN_ok hn (lies_of_chain l 0 (by omega) h) (apart_of_chain l 0 h)
theorem chain_of_checkN {n : Int} {l : List Ed} (h : checkN n l = 0) : Chain n 0 l := by
  obtain ⟨h0, h1, h2⟩ := checkN_zero h
  exact chain_of l 0 h1 h2 (fun h => (h1 0 h).1)

theorem segs_at : ∀ (l : List Ed) (o g : Nat) (T : List UInt8), Chain ((o + T.length : Nat) : Int) ((o + g : Nat) : Int) l → ∃ xs last, T = orig xs ++ last ∧ l = edits o xs ∧ Gap g xs
  | [], o, g, T, _ => ⟨[], T, rfl, rfl, trivial⟩
  | x :: r, o, g, T, ⟨h1, h2, h3, h4⟩ => by
    obtain ⟨a, ha⟩ : ∃ a : Nat, x.a = ((o + a : Nat) : Int) := ⟨(x.a - o).toNat, by omega⟩
    obtain ⟨e, he⟩ : ∃ e : Nat, x.e = ((o + a + e : Nat) : Int) := ⟨(x.e - x.a).toNat, by omega⟩
    have hl : a + e ≤ T.length := by omega
    obtain ⟨xs, last, t1, t2, t3⟩ := segs_at r (o + a + e) 1 (T.drop (a + e)) (by
      rw [he] at h4
      have e1 : o + a + e + (T.drop (a + e)).length = o + T.length := by simp; omega
      rw [e1]
      have e2 : ((o + a + e : Nat) : Int) + 1 = ((o + a + e + 1 : Nat) : Int) := by omega
      rwa [e2] at h4)
    refine ⟨⟨T.take a, (T.drop a).take e, x.t.data.toList⟩ :: xs, last, ?_, ?_, ?_, t3⟩
    · simp only [orig]
      rw [List.append_assoc, List.append_assoc, ← t1, ← List.drop_drop, List.take_append_drop, List.take_append_drop]
    · have k1 : (T.take a).length = a := by simp; omega
      have k2 : ((T.drop a).take e).length = e := by simp; omega
      simp only [edits, k1, k2]
      rw [← t2, ← ha, ← he]
    · show g ≤ (T.take a).length
      simp; omega

theorem segs_of {S : List UInt8} {l : List Ed} (h : checkN S.length l = 0) : ∃ xs last, S = orig xs ++ last ∧ l = edits 0 xs ∧ Gap 0 xs := by
  have := chain_of_checkN h
  exact segs_at l 0 0 S (by simpa using this)

theorem chain_edits (n : Int) : ∀ (xs : List Seg) (o g : Nat), Gap g xs → ((o + (orig xs).length : Nat) : Int) ≤ n → Chain n ((o + g : Nat) : Int) (edits o xs)
  | [], _, _, _, _ => trivial
  | x :: r, o, g, ⟨h1, h2⟩, h => by
    simp only [orig, List.length_append] at h
    refine ⟨by show ((o + g : Nat) : Int) ≤ ((o + x.k.length : Nat) : Int); omega, by show ((o + x.k.length : Nat) : Int) ≤ ((o + x.k.length + x.d.length : Nat) : Int); omega, by show ((o + x.k.length + x.d.length : Nat) : Int) ≤ n; omega, ?_⟩
    have := chain_edits n r (o + x.k.length + x.d.length) 1 h2 (by omega)
    exact this

theorem check_edits {xs : List Seg} {last : List UInt8} (h : Gap 0 xs) : checkN ((orig xs ++ last).length : Nat) (edits 0 xs) = 0 :=
  checkN_of_chain (by omega) (by have := chain_edits ((orig xs ++ last).length : Nat) xs 0 0 h (by simp; omega); simpa using this)

/-- The way back. -/
def swap (xs : List Seg) : List Seg := xs.map fun x => ⟨x.k, x.i, x.d⟩
theorem orig_swap (xs : List Seg) : orig (swap xs) = made xs := by
  induction xs with
  | nil => rfl
  | cons x r ih => simp only [swap, List.map_cons, orig, made] at *; rw [ih]
theorem made_swap (xs : List Seg) : made (swap xs) = orig xs := by
  induction xs with
  | nil => rfl
  | cons x r ih => simp only [swap, List.map_cons, orig, made] at *; rw [ih]
theorem gap_swap {g : Nat} (xs : List Seg) (h : Gap g xs) : Gap g (swap xs) := by
  induction xs generalizing g with
  | nil => trivial
  | cons x r ih => exact ⟨h.1, ih h.2⟩

theorem orig_append (a b : List Seg) : orig (a ++ b) = orig a ++ orig b := by
  induction a with
  | nil => rfl
  | cons x r ih => simp [orig, ih]
theorem made_append (a b : List Seg) : made (a ++ b) = made a ++ made b := by
  induction a with
  | nil => rfl
  | cons x r ih => simp [made, ih]
theorem edits_length (xs : List Seg) (o : Nat) : (edits o xs).length = xs.length := by
  induction xs generalizing o with
  | nil => rfl
  | cons x r ih => simp [edits, ih]
theorem edits_at : ∀ (xs : List Seg) (o j : Nat) (h : j < xs.length), (edits o xs)[j]'(by rw [edits_length]; exact h) = ⟨((o + (orig (xs.take j)).length + xs[j].k.length : Nat) : Int), ((o + (orig (xs.take j)).length + xs[j].k.length + xs[j].d.length : Nat) : Int), ⟨xs[j].i.toArray⟩⟩
  | [], _, j, h => absurd h (by simp)
  | x :: r, o, 0, _ => by simp [edits, orig]
  | x :: r, o, j + 1, h => by
    have := edits_at r (o + x.k.length + x.d.length) j (by simpa using h)
    simp only [edits, List.getElem_cons_succ, List.take_succ_cons, orig, List.length_append] at *
    rw [this]
    congr 1 <;> omega
theorem bytes_edits (xs : List Seg) (o : Nat) : bytes (edits o xs) = (xs.map fun x => x.i.length).sum := by
  induction xs generalizing o with
  | nil => rfl
  | cons x r ih => simp [edits, bytes, ih, ByteArray.size]
theorem made_length (xs : List Seg) : (made xs).length ≤ (orig xs).length + (xs.map fun x => x.i.length).sum := by
  induction xs with
  | nil => simp [made, orig]
  | cons x r ih => simp [made, orig]; omega
theorem orig_take_succ (xs : List Seg) (j : Nat) (h : j < xs.length) : orig (xs.take (j + 1)) = orig (xs.take j) ++ (xs[j].k ++ xs[j].d) := by
  rw [List.take_succ_eq_append_getElem h, orig_append]; simp [orig]
theorem made_take_succ (xs : List Seg) (j : Nat) (h : j < xs.length) : made (xs.take (j + 1)) = made (xs.take j) ++ (xs[j].k ++ xs[j].i) := by
  rw [List.take_succ_eq_append_getElem h, made_append]; simp [made]
theorem orig_split (xs : List Seg) (j : Nat) (h : j < xs.length) : orig xs = orig (xs.take j) ++ (xs[j].k ++ (xs[j].d ++ orig (xs.drop (j + 1)))) := by
  conv => lhs; rw [← List.take_append_drop j xs, orig_append, List.drop_eq_getElem_cons h]
  rfl
/-- The bytes that edits put in. -/
def ins (xs : List Seg) : Nat := (xs.map fun x => x.i.length).sum
theorem ins_take (xs : List Seg) (i : Nat) (h : i < xs.length) : (made (xs.take i)).length + xs[i].k.length + xs[i].i.length ≤ (orig xs).length + ins xs := by
  have h1 := made_length (xs.take (i + 1))
  rw [made_take_succ xs i h] at h1
  have h2 : (orig (xs.take (i + 1))).length ≤ (orig xs).length := by
    conv => rhs; rw [← List.take_append_drop (i + 1) xs, orig_append]
    simp
  have h3 : ((xs.take (i + 1)).map fun x => x.i.length).sum ≤ ins xs := by
    unfold ins
    conv => rhs; rw [← List.take_append_drop (i + 1) xs, List.map_append, List.sum_append]
    omega
  simp only [List.length_append] at h1
  omega

end Go.Proofs.Ytficgilapbmmpaa
