/-
  Plain facts of environments: how two keys stand, lists in the order of their keys, what is put in, what is bound.; The order of keys, walked: cmp.Compare at numbers and texts, cmp.Or of two, order.; How links, trees and environments lie in memory; nothing of them is written again.
-/
import Derived.Test.YtagkpcnedccaiaaRows
import Derived.WalkKit
import Derived.Below
import Derived.Deep.Draws
import Derived.Lib.Hide
import Derived.Handy
import Derived.RegionTactic
import Derived.ChangeAlike
import Derived.Deep.QuietTactic
import Derived.BigQuiet
import Derived.Deep.RegionHeld3
import Derived.Laws.Cover1
namespace Go.Proofs.Ytagkpcnedccaiaa
open Go.RowKit
set_option linter.unusedVariables false
set_option linter.unusedSimpArgs false

theorem ret_bool {a b : Bool} (h : a = b) : Ending.returned (.bool a) = .returned (.bool b) := by rw [h]
theorem ret_int {k : IntKind} {a b : Int} (h : a = b) : Ending.returned (.int k a) = .returned (.int k b) := by rw [h]
theorem below_drewN {N : Nat} {w w1 : World} (h : Below N w w1) (n : Nat) : Below N w (w1.drewN n) := ⟨h.os, h.tape, h.output, h.size, h.block⟩

/-- A key: a space, and a name. -/
abbrev Ky := Int × ByteArray
def cmpI (x y : Int) : Int := if x < y then -1 else if y < x then 1 else 0
def cmpS (a b : ByteArray) : Int := if Op.bytesLess a.toList b.toList = true then -1 else if a.toList = b.toList then 0 else 1
def orI (x y : Int) : Int := if x ≠ 0 then x else y
theorem orI_yes {x y : Int} (h : x ≠ 0) : orI x y = x := if_pos h
theorem orI_no (y : Int) : orI 0 y = y := if_neg (by simp)
def ordK (a b : Ky) : Int := orI (cmpI a.1 b.1) (cmpS a.2 b.2)
theorem ba_toList (a b : ByteArray) : a.toList = b.toList ↔ a = b := by
 rw [ByteArray.toList_eq, ByteArray.toList_eq]
 constructor
 ·intro h
  cases a; cases b
  simp only at h
  congr 1
  exact Array.toList_inj.1 h
 ·intro h; rw [h]
theorem less_irr : ∀ l : List UInt8, Op.bytesLess l l = false
 | [] => by simp [Op.bytesLess]
 | a :: l => by simp [Op.bytesLess, less_irr l]
theorem less_trans : ∀ a b c : List UInt8, Op.bytesLess a b = true → Op.bytesLess b c = true → Op.bytesLess a c = true
 | _, _, [] => by intro _ h; simp [Op.bytesLess] at h
 | _, [], _ :: _ => by intro h; simp [Op.bytesLess] at h
 | [], _ :: _, _ :: _ => by intro _ _; simp [Op.bytesLess]
 | x :: a, y :: b, z :: c => by
  intro h1 h2
  simp only [Op.bytesLess, Bool.or_eq_true, Bool.and_eq_true, decide_eq_true_eq, beq_iff_eq] at *
  rcases h1 with h1 | ⟨rfl, h1⟩
  ·rcases h2 with h2 | ⟨rfl, h2⟩
   ·exact .inl (UInt8.lt_trans h1 h2)
   ·exact .inl h1
  ·rcases h2 with h2 | ⟨rfl, h2⟩
   ·exact .inl h2
   ·exact .inr ⟨rfl, less_trans a b c h1 h2⟩
theorem less_total : ∀ a b : List UInt8, Op.bytesLess a b = true ∨ a = b ∨ Op.bytesLess b a = true
 | [], [] => .inr (.inl rfl)
 | [], _ :: _ => by simp [Op.bytesLess]
 | _ :: _, [] => by simp [Op.bytesLess]
 | x :: a, y :: b => by
  simp only [Op.bytesLess, Bool.or_eq_true, Bool.and_eq_true, decide_eq_true_eq, beq_iff_eq, List.cons.injEq]
  rcases UInt8.lt_or_lt_of_ne (a := x) (b := y) |> fun h => (Decidable.em (x = y)).imp id h with h | h | h
  ·subst h
   rcases less_total a b with h | h | h
   ·exact .inl (.inr ⟨rfl, h⟩)
   ·exact .inr (.inl ⟨rfl, h⟩)
   ·exact .inr (.inr (.inr ⟨rfl, h⟩))
  ·exact .inl (.inl h)
  ·exact .inr (.inr (.inl h))
/-- Does a key come ahead of another one? -/
def LtK (a b : Ky) : Prop := a.1 < b.1 ∨ a.1 = b.1 ∧ Op.bytesLess a.2.toList b.2.toList = true
theorem ltK_irr (a : Ky) : ¬ LtK a a := (by
 rintro (h | ⟨_, h⟩)
 ·omega
 ·rw [less_irr] at h; cases h)
theorem ltK_trans {a b c : Ky} (h : LtK a b) (g : LtK b c) : LtK a c := by
 rcases h with h | ⟨h, h'⟩ <;> rcases g with g | ⟨g, g'⟩
 ·exact .inl (by omega)
 ·exact .inl (by omega)
 ·exact .inl (by omega)
 ·exact .inr ⟨by omega, less_trans _ _ _ h' g'⟩
theorem ltK_total (a b : Ky) : LtK a b ∨ a = b ∨ LtK b a := by
 obtain ⟨s, n⟩ := a; obtain ⟨t, m⟩ := b
 unfold LtK
 simp only [Prod.mk.injEq]
 rcases Int.lt_trichotomy s t with h | h | h
 ·exact .inl (.inl h)
 ·subst h
  rcases less_total n.toList m.toList with h | h | h
  ·exact .inl (.inr ⟨rfl, h⟩)
  ·exact .inr (.inl ⟨rfl, (ba_toList _ _).1 h⟩)
  ·exact .inr (.inr (.inr ⟨rfl, h⟩))
 ·exact .inr (.inr (.inl h))
theorem cmpS_bd (a b : ByteArray) : -1 ≤ cmpS a b ∧ cmpS a b ≤ 1 := by unfold cmpS; split <;> (try split) <;> omega
theorem ordK_bd (a b : Ky) : -1 ≤ ordK a b ∧ ordK a b ≤ 1 := by
 have := cmpS_bd a.2 b.2
 unfold ordK orI cmpI
 split <;> (repeat' split) <;> omega
theorem ordK_lt (a b : Ky) : ordK a b < 0 ↔ LtK a b := by
 rcases Int.lt_trichotomy a.1 b.1 with h | h | h
 ·have : ordK a b = -1 := by unfold ordK orI cmpI; simp [h]
  rw [this]
  exact ⟨fun _ => .inl h, fun _ => by omega⟩
 ·have : ordK a b = cmpS a.2 b.2 := by unfold ordK orI cmpI; simp [h]
  rw [this]
  unfold cmpS LtK
  constructor
  ·intro hc
   refine .inr ⟨h, ?_⟩
   split at hc
   ·assumption
   ·split at hc <;> omega
  ·rintro (h1 | ⟨_, h1⟩)
   ·omega
   ·rw [if_pos h1]; omega
 ·have h' : ¬ a.1 < b.1 := by omega
  have : ordK a b = 1 := by unfold ordK orI cmpI; simp [h, h']
  rw [this]
  refine ⟨fun hc => by omega, ?_⟩
  rintro (h1 | ⟨h1, _⟩) <;> omega
theorem ordK_eq (a b : Ky) : ordK a b = 0 ↔ a = b := by
 constructor
 ·intro h
  rcases ltK_total a b with h1 | h1 | h1
  ·have := (ordK_lt a b).2 h1; omega
  ·exact h1
  ·exfalso
   unfold ordK orI cmpI cmpS at h
   rcases h1 with h1 | ⟨h1, h2⟩
   ·have : ¬ a.1 < b.1 := by omega
    simp [this, h1] at h
   ·have h3 : Op.bytesLess a.2.toList b.2.toList = false := by
     cases hh : Op.bytesLess a.2.toList b.2.toList with
     | false => rfl
     | true => have := less_trans _ _ _ hh h2; rw [less_irr] at this; cases this
    have h4 : a.2.toList ≠ b.2.toList := fun e => by rw [e, less_irr] at h2; cases h2
    simp [h1, h3, h4] at h
 ·rintro rfl
  unfold ordK orI cmpI cmpS
  simp [less_irr]
theorem ordK_gt (a b : Ky) : 0 < ordK a b ↔ LtK b a := by
 constructor
 ·intro h
  rcases ltK_total a b with h1 | h1 | h1
  ·have := (ordK_lt a b).2 h1; omega
  ·have := (ordK_eq a b).2 h1; omega
  ·exact h1
 ·intro h
  rcases Int.lt_trichotomy (ordK a b) 0 with h1 | h1 | h1
  ·exact absurd (ltK_trans ((ordK_lt a b).1 h1) h) (ltK_irr _)
  ·rw [(ordK_eq a b).1 h1] at h; exact absurd h (ltK_irr _)
  ·exact h1

/-- A binding, without where it lies. -/
structure Bi where
 k : Ky
 dc : Int
 via : Int
 pa : Option Addr
 pm : Option Addr
/-- A binding, and the block of its link. -/
structure Bd where
 bi : Bi
 lk : Nat
abbrev Bd.k (b : Bd) : Ky := b.bi.k
def Srt (l : List Bd) : Prop := l.Pairwise (fun x y => LtK x.k y.k)
def insL : List Bd → Bd → List Bd
 | [], b => [b]
 | x :: r, b => if ordK b.k x.k < 0 then b :: x :: r else if 0 < ordK b.k x.k then x :: insL r b else b :: r
theorem insL_left (b y : Bd) (R : List Bd) : ∀ L : List Bd, Srt (L ++ y :: R) → LtK b.k y.k → insL (L ++ y :: R) b = insL L b ++ y :: R
 | [], _, h => by simp only [List.nil_append, insL, if_pos ((ordK_lt _ _).2 h)]; rfl
 | x :: L, hs, h => by
  have hs' : Srt (L ++ y :: R) := (List.pairwise_cons.1 hs).2
  simp only [List.cons_append, insL, insL_left b y R L hs' h]
  split
  ·rfl
  ·split <;> rfl
theorem insL_right (b y : Bd) (R : List Bd) : ∀ L : List Bd, Srt (L ++ y :: R) → LtK y.k b.k → insL (L ++ y :: R) b = L ++ y :: insL R b
 | [], _, h => by
  have h1 := (ordK_gt b.k y.k).2 h
  simp only [List.nil_append, insL, if_pos h1, if_neg (show ¬ ordK b.k y.k < 0 by omega)]
 | x :: L, hs, h => by
  have hs' : Srt (L ++ y :: R) := (List.pairwise_cons.1 hs).2
  have hx : LtK x.k y.k := (List.pairwise_cons.1 hs).1 y (by simp)
  have h1 := (ordK_gt b.k x.k).2 (ltK_trans hx h)
  simp only [List.cons_append, insL, insL_right b y R L hs' h, if_pos h1, if_neg (show ¬ ordK b.k x.k < 0 by omega)]
theorem insL_same (b y : Bd) (R : List Bd) : ∀ L : List Bd, Srt (L ++ y :: R) → b.k = y.k → insL (L ++ y :: R) b = L ++ b :: R
 | [], _, h => by
  have h1 := (ordK_eq b.k y.k).2 h
  simp only [List.nil_append, insL, if_neg (show ¬ ordK b.k y.k < 0 by omega), if_neg (show ¬ 0 < ordK b.k y.k by omega)]
 | x :: L, hs, h => by
  have hs' : Srt (L ++ y :: R) := (List.pairwise_cons.1 hs).2
  have hx : LtK x.k y.k := (List.pairwise_cons.1 hs).1 y (by simp)
  rw [← h] at hx
  have h1 := (ordK_gt b.k x.k).2 hx
  simp only [List.cons_append, insL, insL_same b y R L hs' h, if_pos h1, if_neg (show ¬ ordK b.k x.k < 0 by omega)]
theorem insL_mem (b z : Bd) : ∀ L : List Bd, z ∈ insL L b → z = b ∨ z ∈ L
 | [], h => by simpa [insL] using h
 | x :: L, h => by
  simp only [insL] at h
  split at h
  ·simpa using h
  ·split at h
   ·rcases List.mem_cons.1 h with h | h
    ·exact .inr (by simp [h])
    ·rcases insL_mem b z L h with h | h
     ·exact .inl h
     ·exact .inr (by simp [h])
   ·rcases List.mem_cons.1 h with h | h
    ·exact .inl h
    ·exact .inr (by simp [h])
theorem insL_srt (b : Bd) : ∀ L : List Bd, Srt L → Srt (insL L b)
 | [], _ => by simp [insL, Srt]
 | x :: L, h => by
  obtain ⟨h1, h2⟩ := List.pairwise_cons.1 h
  simp only [insL]
  split
  ·rename_i hc
   have hc := (ordK_lt _ _).1 hc
   refine List.pairwise_cons.2 ⟨fun z hz => ?_, h⟩
   rcases List.mem_cons.1 hz with rfl | hz
   ·exact hc
   ·exact ltK_trans hc (h1 z hz)
  ·split
   ·rename_i hc
    refine List.pairwise_cons.2 ⟨fun z hz => ?_, insL_srt b L h2⟩
    rcases insL_mem b z L hz with rfl | hz
    ·exact (ordK_gt _ _).1 hc
    ·exact h1 z hz
   ·rename_i hc1 hc2
    have he : b.k = x.k := (ordK_eq _ _).1 (by omega)
    refine List.pairwise_cons.2 ⟨fun z hz => ?_, h2⟩
    show LtK b.k z.k
    rw [he]; exact h1 z hz
theorem insL_len (b : Bd) : ∀ L : List Bd, (insL L b).length ≤ L.length + 1
 | [] => by simp [insL]
 | x :: L => by
  have := insL_len b L
  simp only [insL]
  split
  ·simp
  ·split <;> simp <;> omega
theorem insL_ne (b : Bd) (L : List Bd) : insL L b ≠ [] := by
 cases L with
 | nil => simp [insL]
 | cons x L => simp only [insL]; split <;> (try split) <;> simp
/-- What a key is bound to: the first of a list that has it. -/
def look (l : List Bd) (k : Ky) : Option Bd := l.find? (fun b => decide (b.k = k))
theorem look_none {L : List Bd} {k : Ky} (h : ∀ z ∈ L, LtK k z.k) : look L k = none := by
 refine List.find?_eq_none.2 fun z hz => ?_
 have := h z hz
 simp only [decide_eq_true_eq]
 intro e
 rw [e] at this
 exact ltK_irr _ this
theorem insL_look (b : Bd) (k : Ky) : ∀ L : List Bd, Srt L → look (insL L b) k = if b.k = k then some b else look L k
 | [], _ => by simp only [insL, look, List.find?_cons, List.find?_nil]; split <;> simp_all
 | x :: L, h => by
  obtain ⟨h1, h2⟩ := List.pairwise_cons.1 h
  have ih := insL_look b k L h2
  simp only [insL]
  split
  ·simp only [look, List.find?_cons]
   by_cases hb : b.k = k <;> simp [hb]
  ·split
   ·rename_i hc
    have hc := (ordK_gt _ _).1 hc
    simp only [look, List.find?_cons] at ih ⊢
    by_cases hx : x.k = k
    ·have : ¬ b.k = k := fun e => by rw [hx, e] at hc; exact ltK_irr _ hc
     simp [hx, this]
    ·simp only [hx, decide_false]; exact ih
   ·rename_i hc1 hc2
    have he : b.k = x.k := (ordK_eq _ _).1 (by omega)
    simp only [look, List.find?_cons]
    by_cases hb : b.k = k
    ·simp [hb]
    ·have : ¬ x.k = k := fun e => hb (he.trans e)
     simp [hb, this]
theorem look_sorted_mem {L : List Bd} (h : Srt L) {b : Bd} (hb : b ∈ L) : look L b.k = some b := by
 induction L with
 | nil => cases hb
 | cons x L ih =>
  obtain ⟨h1, h2⟩ := List.pairwise_cons.1 h
  rcases List.mem_cons.1 hb with rfl | hb
  ·simp [look]
  ·have := h1 b hb
   have hne : ¬ x.k = b.k := fun e => by rw [e] at this; exact ltK_irr _ this
   have := ih h2 hb
   simp only [look, List.find?_cons, hne, decide_false] at this ⊢
   exact this
theorem look_some {L : List Bd} {k : Ky} {b : Bd} (h : look L k = some b) : b ∈ L ∧ b.k = k := by
 have h1 := List.find?_some h
 exact ⟨List.mem_of_find?_eq_some h, by simpa using h1⟩
end Go.Proofs.Ytagkpcnedccaiaa

namespace Go.Proofs.Ytagkpcnedccaiaa
open Go.RowKit
set_option maxRecDepth 20000
set_option linter.unusedVariables false
set_option linter.unusedSimpArgs false

theorem nan42_any (x : Int) (w : World) : Calls Try.prog 57 #[.int .i64 x] w fun e w' => e = .returned (.bool false) ∧ w = w' := by
 have h : (x != x) = false := by simp
 go_enter Try.func57, Try.ntmps57
 go_wp2
 go_ret
 exact ⟨by simp, rfl⟩
theorem nan43_any (x : ByteArray) (w : World) : Calls Try.prog 76 #[.string x] w fun e w' => e = .returned (.bool false) ∧ w = w' := by
 go_enter Try.func76, Try.ntmps76
 go_wp2
 go_ret
 exact ⟨by simp, rfl⟩
theorem compareI_any (x y : Int) (w : World) : Calls Try.prog 43 #[.int .i64 x, .int .i64 y] w fun e w' => e = .returned (.int .i64 (cmpI x y)) ∧ w = w' := by
 rcases Int.lt_trichotomy x y with h | h | h
 ·have hc : Hid (cmpI x y = -1) := Lib.hid (by simp [cmpI, h])
  go_enter Try.func43, Try.ntmps43
  go_wp2_with (first | (go_at_call 57; refine (nan42_any _ _).mono ?_; rintro e wp ⟨rfl, rfl⟩))
  go_ret
  exact ⟨ret_int hc.out.symm, rfl⟩
 ·have hc : Hid (cmpI x y = 0) := Lib.hid (by simp [cmpI, h])
  have h1 : ¬ x < y := by omega
  have h2 : ¬ y < x := by omega
  clear h
  go_enter Try.func43, Try.ntmps43
  go_wp2_with (first | (go_at_call 57; refine (nan42_any _ _).mono ?_; rintro e wp ⟨rfl, rfl⟩))
  go_ret
  exact ⟨ret_int hc.out.symm, rfl⟩
 ·have h1 : ¬ x < y := by omega
  have hc : Hid (cmpI x y = 1) := Lib.hid (by simp [cmpI, h, h1])
  go_enter Try.func43, Try.ntmps43
  go_wp2_with (first | (go_at_call 57; refine (nan42_any _ _).mono ?_; rintro e wp ⟨rfl, rfl⟩))
  go_ret
  exact ⟨ret_int hc.out.symm, rfl⟩
theorem compareS_any (x y : ByteArray) (w : World) : Calls Try.prog 71 #[.string x, .string y] w fun e w' => e = .returned (.int .i64 (cmpS x y)) ∧ w = w' := by
 by_cases h : Op.bytesLess x.toList y.toList = true
 ·have hc : Hid (cmpS x y = -1) := Lib.hid (by simp [cmpS, h])
  go_enter Try.func71, Try.ntmps71
  go_wp2_with (first | (go_at_call 76; refine (nan43_any _ _).mono ?_; rintro e wp ⟨rfl, rfl⟩))
  go_ret
  exact ⟨ret_int hc.out.symm, rfl⟩
 ·have h1 : Op.bytesLess x.toList y.toList = false := by simpa using h
  by_cases h2 : x.toList = y.toList
  ·have hc : Hid (cmpS x y = 0) := Lib.hid (by simp only [cmpS, h1, h2]; simp [less_irr])
   have h3 : (x.toList == y.toList) = true := by simp [h2]
   clear h h2
   go_enter Try.func71, Try.ntmps71
   go_wp2_with (first | (go_at_call 76; refine (nan43_any _ _).mono ?_; rintro e wp ⟨rfl, rfl⟩))
   go_ret
   exact ⟨ret_int hc.out.symm, rfl⟩
  ·have hc : Hid (cmpS x y = 1) := Lib.hid (by simp [cmpS, h1, h2])
   have h3 : (x.toList == y.toList) = false := by simp [h2]
   clear h h2
   go_enter Try.func71, Try.ntmps71
   go_wp2_with (first | (go_at_call 76; refine (nan43_any _ _).mono ?_; rintro e wp ⟨rfl, rfl⟩))
   go_ret
   exact ⟨ret_int hc.out.symm, rfl⟩
theorem or_two (x y : Int) (b : Nat) (w : World) (h0 : w.cell? ⟨b, 0, none⟩ = some (.int .i64 x)) (h1 : w.cell? ⟨b, 1, none⟩ = some (.int .i64 y)) :
  Calls Try.prog 42 #[.slice (some ⟨b, 0, none⟩) 2 2] w fun e w' => e = .returned (.int .i64 (orI x y)) ∧ w = w' := by
 by_cases hx : x = 0
 ·subst hx
  have hO := Lib.hid (orI_no y)
  by_cases hy : y = 0
  ·subst hy
   go_enter Try.func42, Try.ntmps42
   go_wp2
   refine wp_loop_rounds 3 ?_
   rw [rounds_succ]
   go_wp2
   rw [rounds_succ]
   go_wp2
   rw [rounds_succ]
   go_wp2
   go_ret
   exact ⟨ret_int hO.out.symm, rfl⟩
  ·have hy1 : (y == 0) = false := by rw [beq_eq_false_iff_ne]; exact hy
   have hy2 : (y != 0) = true := by rw [bne, hy1]; rfl
   go_enter Try.func42, Try.ntmps42
   go_wp2
   refine wp_loop_rounds 3 ?_
   rw [rounds_succ]
   go_wp2
   rw [rounds_succ]
   go_wp2
   go_ret
   exact ⟨ret_int hO.out.symm, rfl⟩
 ·have hO := Lib.hid (orI_yes (y := y) hx)
  have hx1 : (x == 0) = false := by rw [beq_eq_false_iff_ne]; exact hx
  have hx2 : (x != 0) = true := by rw [bne, hx1]; rfl
  go_enter Try.func42, Try.ntmps42
  go_wp2
  refine wp_loop_rounds 3 ?_
  rw [rounds_succ]
  go_wp2
  go_ret
  exact ⟨ret_int hO.out.symm, rfl⟩

set_option maxHeartbeats 1000000 in
theorem order_any (x y : Ky) (w : World) :
  Calls Try.prog 61 #[.agg #[.int .i64 x.1, .string x.2], .agg #[.int .i64 y.1, .string y.2]] w fun e w' => e = .returned (.int .i64 (ordK x y)) ∧ Below w.heap.size w w' := by
 obtain ⟨xs, xn⟩ := x
 obtain ⟨ys, yn⟩ := y
 have hE : Hid (ordK (xs, xn) (ys, yn) = orI (cmpI xs ys) (cmpS xn yn)) := Lib.hid rfl
 simp only
 go_enter Try.func61, Try.ntmps61
 go_wp2_with fail
 generalize hW : (w.alloc (.cells #[.int .i64 xs, .string xn] 27)).alloc (.cells #[.int .i64 ys, .string yn] 27) = wa at *
 have b0 : Below w.heap.size w wa := by rw [← hW]; exact ((Below.refl _ _).alloc (Nat.le_refl _) _).alloc (by simp) _
 have hz : wa.heap.size = w.heap.size + 2 := by rw [← hW]; simp
 have x0 : wa.cell? ⟨w.heap.size, 0, none⟩ = some (.int .i64 xs) := by rw [← hW]; simp [go_sem]
 have x1 : wa.cell? ⟨w.heap.size, 1, none⟩ = some (.string xn) := by rw [← hW]; simp [go_sem]
 have y0 : wa.cell? ⟨w.heap.size + 1, 0, none⟩ = some (.int .i64 ys) := by rw [← hW]; simp [go_sem]
 have y1 : wa.cell? ⟨w.heap.size + 1, 1, none⟩ = some (.string yn) := by rw [← hW]; simp [go_sem]
 have HZ := Lib.hid hz
 have l0 : w.heap.size < wa.heap.size := by omega
 have l1 : w.heap.size + 1 < wa.heap.size := by omega
 clear hW hz
 go_region_held3 (fun w' => w'.cell? ⟨w.heap.size, 0, none⟩ = some (.int .i64 xs) ∧ w'.cell? ⟨w.heap.size, 1, none⟩ = some (.string xn) ∧ w'.cell? ⟨w.heap.size + 1, 0, none⟩ = some (.int .i64 ys) ∧ w'.cell? ⟨w.heap.size + 1, 1, none⟩ = some (.string yn))
  (go_keep)
  ((first
   | (go_at_call 43; refine (compareI_any _ _ _).mono ?_; rintro e wp ⟨rfl, rfl⟩)
   | (go_at_call 71; refine (compareS_any _ _ _).mono ?_; rintro e wp ⟨rfl, rfl⟩)
   | (go_at_call 42; refine (or_two (cmpI xs ys) (cmpS xn yn) wa.heap.size _ (by simp [go_sem]) (by simp [go_sem])).mono ?_; rintro e wq ⟨rfl, rfl⟩)))
 all_goals
  go_wp2_with fail
  go_ret
  refine ⟨ret_int hE.out.symm, ?_⟩
  exact (b0.drew).alloc (by have := HZ.out; show _ ≤ wa.heap.size; omega) _
end Go.Proofs.Ytagkpcnedccaiaa

namespace Go.Proofs.Ytagkpcnedccaiaa
open Go.RowKit
set_option maxRecDepth 20000
set_option linter.unusedVariables false
set_option linter.unusedSimpArgs false

theorem cellH {w : World} {b : Nat} {cs : Array Value} {T : TypeId} {fr : Nat × Nat} (hb : w.heap[b]? = some (.cells cs T fr)) (j : Nat) : w.cell? ⟨b, j, none⟩ = cs[j]? := by
 simp [World.cell?, hb]
theorem heap_lt {w : World} {b : Nat} {o : Obj} (hb : w.heap[b]? = some o) : b < w.heap.size := (Array.getElem?_eq_some_iff.1 hb).1
theorem heap_step {w w1 : World} {b : Nat} {o : Obj} (hb : w.heap[b]? = some o) (h : Below w.heap.size w w1) : w1.heap[b]? = some o := (h.block b (heap_lt hb)).trans hb
theorem heap_new (w : World) (o : Obj) : (w.alloc o).heap[w.heap.size]? = some o := by
 show (w.heap.push o)[w.heap.size]? = some o
 simp

def keyV (k : Ky) : Value := .agg #[.int .i64 k.1, .string k.2]
def itemV (b : Bi) : Value := .agg #[.int .i64 b.dc, .int .i64 b.via, .pointer b.pa, .pointer b.pm]
def biV (b : Bi) : Value := .agg #[.int .i64 b.k.1, .string b.k.2, .int .i64 b.dc, .int .i64 b.via, .pointer b.pa, .pointer b.pm]
def at0 (g : Nat) : Option Addr := some ⟨g, 0, none⟩
/-- The youngest link. -/
def top : List Bd → Option Addr
 | [] => none
 | b :: _ => at0 b.lk
/-- A link's block, and the link ahead of it. -/
def LkC (w : World) (b : Bd) (p : Option Addr) : Prop :=
 w.heap[b.lk]? = some (.cells #[.int .i64 b.bi.k.1, .string b.bi.k.2, .int .i64 b.bi.dc, .int .i64 b.bi.via, .pointer b.bi.pa, .pointer b.bi.pm, .pointer p] 100 (0, 0))
theorem LkC.step {w w1 : World} {b : Bd} {p : Option Addr} (h : LkC w b p) (hw : Below w.heap.size w w1) : LkC w1 b p := heap_step h hw
structure LkR (w : World) (b : Bd) (p : Option Addr) : Prop where
 c0 : w.cell? ⟨b.lk, 0, none⟩ = some (.int .i64 b.bi.k.1)
 c1 : w.cell? ⟨b.lk, 1, none⟩ = some (.string b.bi.k.2)
 c2 : w.cell? ⟨b.lk, 2, none⟩ = some (.int .i64 b.bi.dc)
 c3 : w.cell? ⟨b.lk, 3, none⟩ = some (.int .i64 b.bi.via)
 c4 : w.cell? ⟨b.lk, 4, none⟩ = some (.pointer b.bi.pa)
 c5 : w.cell? ⟨b.lk, 5, none⟩ = some (.pointer b.bi.pm)
 c6 : w.cell? ⟨b.lk, 6, none⟩ = some (.pointer p)
theorem LkC.out {w : World} {b : Bd} {p : Option Addr} (h : LkC w b p) : LkR w b p :=
 ⟨(cellH h 0).trans rfl, (cellH h 1).trans rfl, (cellH h 2).trans rfl, (cellH h 3).trans rfl, (cellH h 4).trans rfl, (cellH h 5).trans rfl, (cellH h 6).trans rfl⟩
/-- Links, the youngest first. -/
def Lk (w : World) : List Bd → Prop
 | [] => True
 | b :: r => LkC w b (top r) ∧ Lk w r
theorem Lk.step {w w1 : World} (hw : Below w.heap.size w w1) : ∀ {l : List Bd}, Lk w l → Lk w1 l
 | [], _ => trivial
 | _ :: _, ⟨h1, h2⟩ => ⟨h1.step hw, Lk.step hw h2⟩
theorem Lk.lt {w : World} : ∀ {l : List Bd}, Lk w l → ∀ b ∈ l, b.lk < w.heap.size
 | [], _, _, h => by cases h
 | x :: r, ⟨h1, h2⟩, b, hb => by
  rcases List.mem_cons.1 hb with rfl | hb
  ·exact heap_lt h1
  ·exact Lk.lt h2 b hb
theorem Lk.drop {w : World} : ∀ {l : List Bd} (i : Nat), Lk w l → Lk w (l.drop i)
 | _, 0, h => h
 | [], i + 1, h => by simpa using h
 | _ :: _, i + 1, h => Lk.drop i h.2
theorem Lk.mem {w : World} : ∀ {l : List Bd}, Lk w l → ∀ b ∈ l, ∃ p, LkC w b p
 | [], _, _, h => by cases h
 | x :: r, ⟨h1, h2⟩, b, hb => by
  rcases List.mem_cons.1 hb with rfl | hb
  ·exact ⟨_, h1⟩
  ·exact Lk.mem h2 b hb

/-- A tree of links. -/
inductive Tr where
 | nil
 | node (b : Bd) (l r : Tr) (g : Nat)
def Tr.ptr : Tr → Option Addr
 | .nil => none
 | .node _ _ _ g => at0 g
def Tr.ht : Tr → Nat
 | .nil => 0
 | .node _ l r _ => 1 + max l.ht r.ht
def Tr.toL : Tr → List Bd
 | .nil => []
 | .node b l r _ => l.toL ++ b :: r.toL
theorem Tr.ht_le : ∀ t : Tr, t.ht ≤ t.toL.length
 | .nil => by simp [Tr.ht, Tr.toL]
 | .node b l r g => by
  have := Tr.ht_le l
  have := Tr.ht_le r
  simp only [Tr.ht, Tr.toL, List.length_append, List.length_cons]
  omega
def NdC (w : World) (b : Bd) (l r : Tr) (g : Nat) : Prop :=
 w.heap[g]? = some (.cells #[.pointer (at0 b.lk), .pointer l.ptr, .pointer r.ptr, .int .i64 ((1 + max l.ht r.ht : Nat) : Int)] 120 (0, 0))
structure NdR (w : World) (b : Bd) (l r : Tr) (g : Nat) : Prop where
 c0 : w.cell? ⟨g, 0, none⟩ = some (.pointer (at0 b.lk))
 c1 : w.cell? ⟨g, 1, none⟩ = some (.pointer l.ptr)
 c2 : w.cell? ⟨g, 2, none⟩ = some (.pointer r.ptr)
 c3 : w.cell? ⟨g, 3, none⟩ = some (.int .i64 ((1 + max l.ht r.ht : Nat) : Int))
theorem NdC.out {w : World} {b : Bd} {l r : Tr} {g : Nat} (h : NdC w b l r g) : NdR w b l r g :=
 ⟨(cellH h 0).trans rfl, (cellH h 1).trans rfl, (cellH h 2).trans rfl, (cellH h 3).trans rfl⟩
def TrAt (w : World) : Tr → Prop
 | .nil => True
 | .node b l r g => NdC w b l r g ∧ (∃ p, LkC w b p) ∧ TrAt w l ∧ TrAt w r
theorem TrAt.step {w w1 : World} (hw : Below w.heap.size w w1) : ∀ {t : Tr}, TrAt w t → TrAt w1 t
 | .nil, _ => trivial
 | .node _ _ _ _, ⟨h1, ⟨p, h2⟩, h3, h4⟩ => ⟨heap_step h1 hw, ⟨p, h2.step hw⟩, TrAt.step hw h3, TrAt.step hw h4⟩
theorem NdC.step {w w1 : World} {b : Bd} {l r : Tr} {g : Nat} (h : NdC w b l r g) (hw : Below w.heap.size w w1) : NdC w1 b l r g := heap_step h hw

theorem height_any (t : Tr) (w : World) (h : TrAt w t) : Calls Try.prog 72 #[.pointer t.ptr] w fun e w' => e = .returned (.int .i64 (t.ht : Nat)) ∧ w = w' := by
 cases t with
 | nil =>
  simp only [Tr.ptr]
  go_enter Try.func72, Try.ntmps72
  go_wp2
  go_ret
  exact ⟨rfl, rfl⟩
 | node b l r g =>
  have h3 := h.1.out.c3
  simp only [Tr.ptr, at0]
  have hE : Hid (((1 + max l.ht r.ht : Nat) : Int) = ((Tr.node b l r g).ht : Nat)) := Lib.hid rfl
  generalize ((1 + max l.ht r.ht : Nat) : Int) = H at *
  clear h
  go_enter Try.func72, Try.ntmps72
  go_wp2
  go_ret
  exact ⟨ret_int hE.out, rfl⟩

/-- What makes a node leaves. -/
def Made (L : List Bd) (w : World) (e : Ending) (w' : World) : Prop := ∃ t : Tr, e = .returned (.pointer t.ptr) ∧ TrAt w' t ∧ t.toL = L ∧ Below w.heap.size w w'
set_option maxHeartbeats 4000000 in
theorem join_node (l r : Tr) (b : Bd) (p : Option Addr) (w : World) (hl : TrAt w l) (hr : TrAt w r) (hb : LkC w b p) (hn : (l.toL ++ b :: r.toL).length ≤ 1000000) :
  Calls Try.prog 62 #[.pointer l.ptr, .pointer (at0 b.lk), .pointer r.ptr] w fun e w' => ∃ g, e = .returned (.pointer (at0 g)) ∧ TrAt w' (.node b l r g) ∧ Below w.heap.size w w' ∧ g = w.heap.size := by
 have hl2 := Tr.ht_le l
 have hr2 := Tr.ht_le r
 have HL := Lib.hid hl
 have HR := Lib.hid hr
 have HB := Lib.hid hb
 have E1 := Lib.hid (height_any l w hl)
 have E2 := Lib.hid (height_any r w hr)
 simp only [List.length_append, List.length_cons] at hn
 have h1 : l.ht ≤ 1000000 := by omega
 have h2 : r.ht ≤ 1000000 := by omega
 clear hl hr hb hn hl2 hr2
 by_cases hm : l.ht < r.ht
 ·have hmx : Hid (1 + max l.ht r.ht = 1 + r.ht) := Lib.hid (by omega)
  have hmi : max ((l.ht : Nat) : Int) (r.ht : Nat) = (r.ht : Nat) := by omega
  have FIN : Hid (∀ w' : World, w' = w.alloc (.cells #[.pointer (at0 b.lk), .pointer l.ptr, .pointer r.ptr, .int .i64 ((1 + r.ht : Nat) : Int)] 120) → TrAt w' (.node b l r w.heap.size) ∧ Below w.heap.size w w') := Lib.hid (by
   rintro w' rfl
   have hB : Below w.heap.size w (w.alloc (.cells #[.pointer (at0 b.lk), .pointer l.ptr, .pointer r.ptr, .int .i64 ((1 + r.ht : Nat) : Int)] 120)) := (Below.refl _ _).alloc (Nat.le_refl _) _
   exact ⟨⟨by unfold NdC; rw [hmx.out]; exact heap_new _ _, ⟨p, HB.out.step hB⟩, HL.out.step hB, HR.out.step hB⟩, hB⟩)
  clear hmx
  generalize l.ptr = lp at *
  generalize r.ptr = rp at *
  generalize at0 b.lk = bp at *
  generalize l.ht = lh at *
  generalize r.ht = rh at *
  go_enter Try.func62, Try.ntmps62
  go_wp2_with (first | (go_at_call 72; refine E1.out.mono ?_; rintro e wp ⟨rfl, rfl⟩) | (go_at_call 72; refine E2.out.mono ?_; rintro e wp ⟨rfl, rfl⟩))
  go_ret
  obtain ⟨f1, f2⟩ := FIN.out _ rfl
  exact ⟨_, rfl, f1, f2, rfl⟩
 ·have hm : r.ht ≤ l.ht := by omega
  have hmx : Hid (1 + max l.ht r.ht = 1 + l.ht) := Lib.hid (by omega)
  have hmi : max ((l.ht : Nat) : Int) (r.ht : Nat) = (l.ht : Nat) := by omega
  have FIN : Hid (∀ w' : World, w' = w.alloc (.cells #[.pointer (at0 b.lk), .pointer l.ptr, .pointer r.ptr, .int .i64 ((1 + l.ht : Nat) : Int)] 120) → TrAt w' (.node b l r w.heap.size) ∧ Below w.heap.size w w') := Lib.hid (by
   rintro w' rfl
   have hB : Below w.heap.size w (w.alloc (.cells #[.pointer (at0 b.lk), .pointer l.ptr, .pointer r.ptr, .int .i64 ((1 + l.ht : Nat) : Int)] 120)) := (Below.refl _ _).alloc (Nat.le_refl _) _
   exact ⟨⟨by unfold NdC; rw [hmx.out]; exact heap_new _ _, ⟨p, HB.out.step hB⟩, HL.out.step hB, HR.out.step hB⟩, hB⟩)
  clear hmx
  generalize l.ptr = lp at *
  generalize r.ptr = rp at *
  generalize at0 b.lk = bp at *
  generalize l.ht = lh at *
  generalize r.ht = rh at *
  go_enter Try.func62, Try.ntmps62
  go_wp2_with (first | (go_at_call 72; refine E1.out.mono ?_; rintro e wp ⟨rfl, rfl⟩) | (go_at_call 72; refine E2.out.mono ?_; rintro e wp ⟨rfl, rfl⟩))
  go_ret
  obtain ⟨f1, f2⟩ := FIN.out _ rfl
  exact ⟨_, rfl, f1, f2, rfl⟩
end Go.Proofs.Ytagkpcnedccaiaa
