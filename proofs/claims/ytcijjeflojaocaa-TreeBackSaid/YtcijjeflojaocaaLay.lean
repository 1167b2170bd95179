/-
  A branch is laid: all its parts behind what is there, in the order.
-/
import Derived.Test.YtcijjeflojaocaaLayA
namespace Go.Proofs.Ytcijjeflojaocaa
open Go.RowKit
set_option linter.unusedVariables false
set_option linter.unusedSimpArgs false

/-- The parts of a row of kids, each with a next one. -/
def flatsN (up : Nat) (deep : Int) (stop m : Nat) : List Br → List Ent
  | [] => []
  | b :: r => b.flat (up : Int) deep ((m + b.size : Nat) : Int) stop m ++ flatsN up deep stop (m + b.size) r
theorem flatsN_append (a b : List Br) (up : Nat) (deep : Int) (stop m : Nat) : flatsN up deep stop m (a ++ b) = flatsN up deep stop m a ++ flatsN up deep stop (m + sizes a) b := by
  induction a generalizing m with
  | nil => simp [flatsN, sizes]
  | cons x r ih => simp only [List.cons_append, flatsN, sizes, List.append_assoc, ih, Nat.add_assoc]
theorem flatsN_length (ks : List Br) (up : Nat) (deep : Int) (stop m : Nat) : (flatsN up deep stop m ks).length = sizes ks := by
  induction ks generalizing m with
  | nil => rfl
  | cons x r ih => simp only [flatsN, List.length_append, sizes, ih, flat_length]
theorem flats_last (a : List Br) (p : Br) (up : Nat) (deep : Int) (stop m : Nat) : flats up deep stop m (a ++ [p]) = flatsN up deep stop m a ++ p.flat up deep (-1) stop (m + sizes a) := by
  induction a generalizing m with
  | nil => simp [flats, flatsN, sizes]
  | cons x r ih =>
    have e : (r ++ [p]).isEmpty = false := by cases r <;> rfl
    simp only [List.cons_append, flats, flatsN, sizes, List.append_assoc, ih, e, cond_false, Nat.add_assoc]
theorem kn_flat_stop (b : Br) (up deep next : Int) (stop stop' n : Nat) : (b.flat up deep next stop n).map Ent.kn = (b.flat up deep next stop' n).map Ent.kn := by
  rw [flat_eq, flat_eq]; rfl
theorem kn_flats_stop (ks : List Br) (up : Nat) (deep : Int) (stop stop' m : Nat) : (flats up deep stop m ks).map Ent.kn = (flats up deep stop' m ks).map Ent.kn := by
  induction ks generalizing m with
  | nil => rfl
  | cons x r ih => simp only [flats, List.map_append, ih, kn_flat_stop x _ _ _ stop stop']

/-- The first of a row that is laid. -/
def Kn.setFirst (x : Kn) (y : Int) : Kn := { x with first := y }
def Kn.setNext (x : Kn) (y : Int) : Kn := { x with next := y }
/-- What is laid of a branch when k of its kids are. -/
def partly (h : Hd) (ks : List Br) (up deep : Int) (n k : Nat) : List Kn :=
  ⟨h.k, h.m, h.f, h.t, up, (bif k == 0 then -1 else ((n + 1 : Nat) : Int)), -1, deep, h.ns⟩ :: (flats n (deep + 1) 0 (n + 1) (ks.take k)).map Ent.kn
theorem partly_length (h : Hd) (ks : List Br) (up deep : Int) (n k : Nat) : (partly h ks up deep n k).length = sizes (ks.take k) + 1 := by
  simp [partly, flats_length]
theorem partly_end (h : Hd) (ks : List Br) (up deep : Int) (n : Nat) (stop : Nat) : partly h ks up deep n ks.length = ((Br.mk h ks).flat up deep (-1) stop n).map Ent.kn := by
  simp only [partly, Br.flat, List.map_cons, List.take_length]
  rw [kn_flats_stop ks n (deep + 1) (n + (sizes ks + 1)) 0]
  congr 1
  simp only [Ent.kn, firstOf, Br.h, Br.ks]
  cases ks <;> rfl
theorem partly_first (h : Hd) (ks : List Br) (up deep : Int) (old : List Kn) (hk : 0 < ks.length) (hi : old.length < (old ++ partly h ks up deep old.length 0 ++ (ks[0].flat old.length (deep + 1) (-1) 0 (old.length + 1)).map Ent.kn).length) :
    (old ++ partly h ks up deep old.length 0 ++ (ks[0].flat old.length (deep + 1) (-1) 0 (old.length + 1)).map Ent.kn).set old.length
      ((old ++ partly h ks up deep old.length 0 ++ (ks[0].flat old.length (deep + 1) (-1) 0 (old.length + 1)).map Ent.kn)[old.length].setFirst ((old.length + 1 : Nat) : Int)) = old ++ partly h ks up deep old.length 1 := by
  cases ks with
  | nil => simp at hk
  | cons x r =>
    simp only [partly, List.take_zero, flats, List.map_nil, List.append_assoc, List.getElem_cons_zero, List.take_succ_cons, List.map_append, List.append_nil, List.isEmpty_nil, cond_true]
    rw [List.set_append_right _ _ (Nat.le_refl _), List.getElem_append_right (Nat.le_refl _)]
    simp [Kn.setFirst]
theorem set_mid (A R : List Kn) (x : Kn) (f : Kn → Kn) (p : Nat) (hp : A.length = p) (hi : p < (A ++ (x :: R)).length) : (A ++ (x :: R)).set p (f (A ++ (x :: R))[p]) = A ++ (f x :: R) := by
  subst hp
  rw [List.set_append_right _ _ (Nat.le_refl _), List.getElem_append_right (Nat.le_refl _)]
  simp
theorem partly_next (h : Hd) (ks : List Br) (up deep : Int) (old : List Kn) (k : Nat) (hk : k + 1 < ks.length) (m : Nat) (hm : m = old.length + (sizes (ks.take (k + 1)) + 1)) (p : Nat) (hp : p = old.length + (sizes (ks.take k) + 1))
    (hi : p < (old ++ partly h ks up deep old.length (k + 1) ++ (ks[k + 1].flat old.length (deep + 1) (-1) 0 m).map Ent.kn).length) :
    (old ++ partly h ks up deep old.length (k + 1) ++ (ks[k + 1].flat old.length (deep + 1) (-1) 0 m).map Ent.kn).set p
      ((old ++ partly h ks up deep old.length (k + 1) ++ (ks[k + 1].flat old.length (deep + 1) (-1) 0 m).map Ent.kn)[p].setNext (m : Int)) = old ++ partly h ks up deep old.length (k + 2) := by
  have t1 : ks.take (k + 1) = ks.take k ++ [ks[k]] := List.take_succ_eq_append_getElem (by omega)
  have t2 : ks.take (k + 2) = (ks.take k ++ [ks[k]]) ++ [ks[k + 1]] := by rw [← t1]; exact List.take_succ_eq_append_getElem hk
  have z1 : sizes (ks.take (k + 1)) = sizes (ks.take k) + ks[k].size := sizes_take_succ (by omega)
  have e1 : partly h ks up deep old.length (k + 2) = ⟨h.k, h.m, h.f, h.t, up, ((old.length + 1 : Nat) : Int), -1, deep, h.ns⟩ :: ((flatsN old.length (deep + 1) 0 (old.length + 1) (ks.take k)).map Ent.kn ++ (ks[k].flat old.length (deep + 1) (m : Int) 0 p).map Ent.kn ++ (ks[k + 1].flat old.length (deep + 1) (-1) 0 m).map Ent.kn) := by
    simp only [partly, t2, flats_last, flatsN_append, flatsN, List.map_append, List.append_nil, sizes_append, sizes]
    rw [show old.length + 1 + sizes (ks.take k) = p by omega, show p + ks[k].size = m by omega, show old.length + 1 + (sizes (ks.take k) + (ks[k].size + 0)) = m by omega]
    rfl
  have e2 : partly h ks up deep old.length (k + 1) = ⟨h.k, h.m, h.f, h.t, up, ((old.length + 1 : Nat) : Int), -1, deep, h.ns⟩ :: ((flatsN old.length (deep + 1) 0 (old.length + 1) (ks.take k)).map Ent.kn ++ (ks[k].flat old.length (deep + 1) (-1) 0 p).map Ent.kn) := by
    simp only [partly, t1, flats_last, List.map_append]
    rw [show old.length + 1 + sizes (ks.take k) = p by omega]
    rfl
  have hl : (⟨h.k, h.m, h.f, h.t, up, ((old.length + 1 : Nat) : Int), -1, deep, h.ns⟩ :: (flatsN old.length (deep + 1) 0 (old.length + 1) (ks.take k)).map Ent.kn : List Kn).length = sizes (ks.take k) + 1 := by simp [flatsN_length]
  have hl2 : (old ++ ⟨h.k, h.m, h.f, h.t, up, ((old.length + 1 : Nat) : Int), -1, deep, h.ns⟩ :: (flatsN old.length (deep + 1) 0 (old.length + 1) (ks.take k)).map Ent.kn : List Kn).length = p := by rw [List.length_append, hl]; omega
  have e3 : old ++ partly h ks up deep old.length (k + 1) ++ (ks[k + 1].flat old.length (deep + 1) (-1) 0 m).map Ent.kn = (old ++ ⟨h.k, h.m, h.f, h.t, up, ((old.length + 1 : Nat) : Int), -1, deep, h.ns⟩ :: (flatsN old.length (deep + 1) 0 (old.length + 1) (ks.take k)).map Ent.kn) ++ ((ks[k].flat old.length (deep + 1) (-1) 0 p).map Ent.kn ++ (ks[k + 1].flat old.length (deep + 1) (-1) 0 m).map Ent.kn) := by
    rw [e2]; simp
  have e4 : old ++ partly h ks up deep old.length (k + 2) = (old ++ ⟨h.k, h.m, h.f, h.t, up, ((old.length + 1 : Nat) : Int), -1, deep, h.ns⟩ :: (flatsN old.length (deep + 1) 0 (old.length + 1) (ks.take k)).map Ent.kn) ++ ((ks[k].flat old.length (deep + 1) (m : Int) 0 p).map Ent.kn ++ (ks[k + 1].flat old.length (deep + 1) (-1) 0 m).map Ent.kn) := by
    rw [e1]; simp
  simp only [e3, e4]
  simp only [flat_eq _ _ _ _ _ ks[k], List.map_cons, List.cons_append]
  rw [set_mid _ _ _ (fun x => x.setNext (m : Int)) p hl2]
  rfl
end Go.Proofs.Ytcijjeflojaocaa
