/-
  The document's Apply goes over the bytes one by one: of edits that are right it makes what Apply makes.
-/
import Derived.Test.YtficgilapbmmpaaRefMapB
namespace Go.Proofs.Ytficgilapbmmpaa
open Go.RowKit
set_option linter.unusedVariables false

/-- What is put in at a place. -/
def insAt (i : Nat) : List Ed → List UInt8
  | [] => []
  | x :: r => (if x.a = (i : Int) then x.t.data.toList else []) ++ insAt i r
theorem insAt_append (i : Nat) (a b : List Ed) : insAt i (a ++ b) = insAt i a ++ insAt i b := by
  induction a with
  | nil => rfl
  | cons x r ih => simp only [List.cons_append, insAt, ih, List.append_assoc]
theorem insAt_take (i : Nat) (l : List Ed) (j : Nat) (h : j < l.length) : insAt i (l.take (j + 1)) = insAt i (l.take j) ++ if l[j].a = (i : Int) then l[j].t.data.toList else [] := by
  rw [List.take_succ_eq_append_getElem h, insAt_append]; simp [insAt]

/-- What is made from a place on. -/
def goOn (l : List Ed) : Nat → List UInt8 → List UInt8
  | i, [] => insAt i l
  | i, c :: T => insAt i l ++ ((bif takenB i l then [] else [c]) ++ goOn l (i + 1) T)

/-- All edits begin behind a place. -/
def Behind (i : Int) (l : List Ed) : Prop := ∀ x ∈ l, i < x.a ∧ x.a ≤ x.e
theorem insAt_behind {i : Int} {l : List Ed} (h : Behind i l) (q : Nat) (hq : (q : Int) ≤ i) : insAt q l = [] := by
  induction l with
  | nil => rfl
  | cons x r ih =>
    have h1 := (h x (by simp)).1
    simp only [insAt]
    rw [if_neg (by omega), ih (fun y hy => h y (by simp [hy]))]
    rfl
theorem taken_behind {i : Int} {l : List Ed} (h : Behind i l) (q : Nat) (hq : (q : Int) ≤ i) : takenB q l = false := by
  induction l with
  | nil => rfl
  | cons x r ih =>
    have h1 := (h x (by simp)).1
    simp only [takenB, ih (fun y hy => h y (by simp [hy])), Bool.or_false]
    simp
    omega
theorem behind_edits (xs : List Seg) : ∀ (o g : Nat), Gap g xs → Behind ((o + g : Nat) - 1) (edits o xs) := by
  induction xs with
  | nil => intro o g _ x hx; simp [edits] at hx
  | cons x r ih =>
    intro o g ⟨h1, h2⟩ y hy
    simp only [edits, List.mem_cons] at hy
    rcases hy with rfl | hy
    · dsimp only; omega
    · have := ih (o + x.k.length + x.d.length) 1 h2 y hy
      omega

theorem goOn_plain (l : List Ed) (i : Int) (h : Behind i l) : ∀ (K : List UInt8) (q : Nat) (T : List UInt8), ((q + K.length : Nat) : Int) ≤ i + 1 → goOn l q (K ++ T) = K ++ goOn l (q + K.length) T
  | [], q, T, _ => by simp
  | c :: K, q, T, hq => by
    simp only [List.length_cons] at hq
    simp only [List.cons_append, goOn]
    rw [insAt_behind h q (by omega), taken_behind h q (by omega), goOn_plain l i h K (q + 1) T (by omega)]
    simp only [List.length_cons, List.nil_append, cond_false, List.singleton_append]
    rw [show q + 1 + K.length = q + (K.length + 1) from by omega]

/-- An edit that lies behind says nothing more. -/
theorem goOn_past (x : Ed) (l : List Ed) : ∀ (T : List UInt8) (q : Nat), x.a < (q : Int) → x.e ≤ (q : Int) → goOn (x :: l) q T = goOn l q T
  | [], q, h1, h2 => by simp only [goOn, insAt]; rw [if_neg (by omega)]; rfl
  | c :: T, q, h1, h2 => by
    simp only [goOn, insAt, takenB]
    rw [if_neg (by omega), goOn_past x l T (q + 1) (by omega) (by omega)]
    have : (decide (x.a ≤ (q : Int)) && decide ((q : Int) < x.e)) = false := by simp; omega
    rw [this]
    simp
theorem goOn_at0 (x : Ed) (l : List Ed) (p : Nat) (ha : x.a = (p : Int)) (he : x.e = (p : Int)) (T : List UInt8) : goOn (x :: l) p T = x.t.data.toList ++ goOn l p T := by
  cases T with
  | nil => simp only [goOn, insAt]; rw [if_pos ha]
  | cons c T =>
    simp only [goOn, insAt, takenB]
    rw [if_pos ha, goOn_past x l T (p + 1) (by omega) (by omega)]
    have : (decide (x.a ≤ (p : Int)) && decide ((p : Int) < x.e)) = false := by simp; omega
    rw [this]
    simp
theorem goOn_in (x : Ed) (l : List Ed) (e : Nat) (he : x.e = (e : Int)) (h : Behind (e : Int) l) : ∀ (D : List UInt8) (q : Nat) (T : List UInt8), x.a < (q : Int) → q + D.length = e → goOn (x :: l) q (D ++ T) = goOn l e T
  | [], q, T, h1, h2 => by
    have : q = e := by simpa using h2
    subst this
    exact goOn_past x l T q h1 (by omega)
  | c :: D, q, T, h1, h2 => by
    simp only [List.length_cons] at h2
    simp only [List.cons_append, goOn, insAt, takenB]
    rw [if_neg (by omega), insAt_behind h q (by omega), taken_behind h q (by omega), goOn_in x l e he h D (q + 1) T (by omega) (by omega)]
    have : (decide (x.a ≤ (q : Int)) && decide ((q : Int) < x.e)) = true := by simp; omega
    rw [this]
    simp
theorem goOn_edit (x : Ed) (l : List Ed) (p : Nat) (D T : List UInt8) (ha : x.a = (p : Int)) (he : x.e = ((p + D.length : Nat) : Int)) (h : Behind ((p + D.length : Nat) : Int) l) : goOn (x :: l) p (D ++ T) = x.t.data.toList ++ goOn l (p + D.length) T := by
  cases D with
  | nil => exact goOn_at0 x l p ha (by simpa using he) T
  | cons c D =>
    simp only [List.length_cons] at he h
    simp only [List.cons_append, goOn, insAt, takenB]
    rw [if_pos ha, insAt_behind h p (by omega), taken_behind h p (by omega), goOn_in x l (p + (D.length + 1)) he h D (p + 1) T (by omega) (by omega)]
    have : (decide (x.a ≤ (p : Int)) && decide ((p : Int) < x.e)) = true := by simp; omega
    rw [this]
    simp

theorem goOn_segs (xs : List Seg) (last : List UInt8) : ∀ (o g : Nat), Gap g xs → goOn (edits o xs) o (orig xs ++ last) = made xs ++ last := by
  induction xs with
  | nil =>
    intro o g _
    have := goOn_plain [] ((o + last.length : Nat) : Int) (fun x hx => absurd hx (by simp)) last o [] (by omega)
    rw [List.append_nil] at this
    simp only [orig, made, edits, List.nil_append]
    rw [this]
    simp [goOn, insAt]
  | cons x r ih =>
    intro o g ⟨h1, h2⟩
    have hb : Behind (((o + x.k.length : Nat) : Int) - 1) (edits o (x :: r)) := by
      intro y hy
      simp only [edits, List.mem_cons] at hy
      rcases hy with rfl | hy
      · dsimp only; omega
      · have := behind_edits r (o + x.k.length + x.d.length) 1 h2 y hy
        omega
    have hbr : Behind (((o + x.k.length + x.d.length : Nat)) : Int) (edits (o + x.k.length + x.d.length) r) := by
      intro y hy
      have := behind_edits r (o + x.k.length + x.d.length) 1 h2 y hy
      omega
    simp only [orig, made, List.append_assoc]
    rw [goOn_plain _ _ hb x.k o _ (by omega)]
    congr 1
    simp only [edits]
    rw [goOn_edit _ _ (o + x.k.length) x.d _ rfl rfl hbr, ih (o + x.k.length + x.d.length) 1 h2]
end Go.Proofs.Ytficgilapbmmpaa
