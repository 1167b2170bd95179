/-
  What gather keeps (match.go's gather): the links so far, and where the links of each pair gone through stand.
-/
import Derived.Test.YtagkpcnedccaiaaFP
import Derived.Test.YtagkpcnedccaiaaFR
import Derived.Test.YtagkpcnedccaiaaFU
namespace Go.Proofs.Ytagkpcnedccaiaa
open Go.RowKit
set_option maxRecDepth 20000
set_option linter.unusedVariables false
set_option linter.unusedSimpArgs false

def okL : Except Ky (List P2) → List P2
 | .ok l => l
 | .error _ => []
/-- The links that one binding asks for. -/
def itmL (rec : List Bn → List Bn → Except Ky (List P2)) (y : List Bn) (a : Bn) : List P2 :=
 match fndN y a.h.k with
 | none => []
 | some b => ownL a b ++ (if a.h.k.1 = 4 then okL (rec a.ps b.ps) else [])
theorem mtL_flat {rec : List Bn → List Bn → Except Ky (List P2)} {y : List Bn} : ∀ V : List Bn, isOk (mtL rec y V) = true → mtL rec y V = .ok (V.flatMap (itmL rec y))
 | [], _ => rfl
 | a :: r, h => by
  obtain ⟨b, hb, hp⟩ := (mtL_ok (a :: r)).1 h a (by simp)
  have hr : isOk (mtL rec y r) = true := (mtL_ok r).2 fun c hc => (mtL_ok (a :: r)).1 h c (by simp [hc])
  have ih := mtL_flat r hr
  simp only [mtL, hb, ih, List.flatMap_cons, itmL]
  by_cases h4 : a.h.k.1 = 4
  ·have h5 := hp h4
   rw [if_pos h4, if_pos h4]
   cases hm : rec a.ps b.ps with
   | error k => rw [hm] at h5; cases h5
   | ok m => simp [okL]
  ·rw [if_neg h4, if_neg h4]; try simp
theorem okL_len {x y : List Bn} : (okL (mt x y)).length ≤ sizes x := by
 cases h : mt x y with
 | error k => simp [okL]
 | ok l => exact mt_len h
theorem ownL_len (a b : Bn) : (ownL a b).length ≤ 1 := by unfold ownL; split <;> simp
theorem itmL_len (y : List Bn) (a : Bn) : (itmL mt y a).length ≤ a.size := by
 unfold itmL
 have h2 := a.size_eq
 split
 ·simp
 ·rename_i b hb
  have h3 := ownL_len a b
  rw [List.length_append]
  split
  ·have := okL_len (x := a.ps) (y := b.ps); omega
  ·simp; omega
theorem flat_len (y : List Bn) : ∀ V : List Bn, (V.flatMap (itmL mt y)).length ≤ sizes V
 | [] => by simp
 | a :: r => by
  have := flat_len y r
  have := itmL_len y a
  simp only [List.flatMap_cons, List.length_append, sizes]; omega
theorem flat_take {V : List Bn} {k : Nat} {a : Bn} (h : V[k]? = some a) (f : Bn → List P2) : (V.take (k + 1)).flatMap f = (V.take k).flatMap f ++ f a := by
 rw [List.take_add_one, h]; simp

def spanV (at_ en : Nat) : Value := .agg #[.int .i64 (at_ : Nat), .int .i64 (en : Nat)]
/-- Where a pair's links stand, for lists of it that are not greater than n. -/
def SpAt (w0 : World) (n : Nat) (k : Option Nat × Option Nat) (v : Value) (ls : List P2) : Prop :=
 ∃ at_ en : Nat, v = spanV at_ en ∧ at_ ≤ en ∧ en ≤ ls.length ∧ ∀ x y, EnvIs w0 (k.1.bind at0) x → EnvIs w0 (k.2.bind at0) y → sizes x ≤ n → mt x y = .ok ((ls.drop at_).take (en - at_))
theorem take_app {ls m : List P2} {at_ en : Nat} (h1 : at_ ≤ en) (h : en ≤ ls.length) : ((ls ++ m).drop at_).take (en - at_) = (ls.drop at_).take (en - at_) := by
 rw [List.drop_append_of_le_length (by omega), List.take_append_of_le_length (by rw [List.length_drop]; omega)]
theorem SpAt.app {w0 : World} {n : Nat} {k : Option Nat × Option Nat} {v : Value} {ls : List P2} (h : SpAt w0 n k v ls) (m : List P2) : SpAt w0 n k v (ls ++ m) := by
 obtain ⟨a, e, h1, h2, h3, h4⟩ := h
 exact ⟨a, e, h1, h2, by rw [List.length_append]; omega, fun x y hx hy hs => by rw [take_app h2 h3]; exact h4 x y hx hy hs⟩
theorem SpAt.le {w0 : World} {n n' : Nat} {k : Option Nat × Option Nat} {v : Value} {ls : List P2} (h : SpAt w0 n k v ls) (hn : n' ≤ n) : SpAt w0 n' k v ls := by
 obtain ⟨a, e, h1, h2, h3, h4⟩ := h
 exact ⟨a, e, h1, h2, h3, fun x y hx hy hs => h4 x y hx hy (by omega)⟩
def Spn (w0 : World) (n : Nat) (T : List ((Option Nat × Option Nat) × Value)) (ls : List P2) : Prop := ∀ k v, lkm T k = some v → SpAt w0 n k v ls
def SpAll (w0 : World) (k : Option Nat × Option Nat) (v : Value) (ls : List P2) : Prop := ∀ n, SpAt w0 n k v ls
/-- What is new in the table is whole. -/
def SNew (w0 : World) (T T' : List ((Option Nat × Option Nat) × Value)) (ls : List P2) : Prop := ∀ k v, lkm T' k = some v → lkm T k = some v ∨ SpAll w0 k v ls
theorem SNew.refl (w0 : World) (T : List ((Option Nat × Option Nat) × Value)) (ls : List P2) : SNew w0 T T ls := fun k v h => .inl h
theorem SNew.app {w0 : World} {T T' : List ((Option Nat × Option Nat) × Value)} {ls : List P2} (h : SNew w0 T T' ls) (m : List P2) : SNew w0 T T' (ls ++ m) := fun k v hk => (h k v hk).imp id fun g n => (g n).app m
theorem SNew.trans {w0 : World} {T T1 T2 : List ((Option Nat × Option Nat) × Value)} {ls ls2 : List P2} (h : SNew w0 T T1 ls) (g : SNew w0 T1 T2 ls2) (hp : ∃ m, ls2 = ls ++ m) : SNew w0 T T2 ls2 := fun k v hk => by
 obtain ⟨m, rfl⟩ := hp
 rcases g k v hk with h1 | h1
 ·exact h.app m k v h1
 ·exact .inr h1
theorem Spn.new {w0 : World} {n : Nat} {T T' : List ((Option Nat × Option Nat) × Value)} {ls m : List P2} (h : Spn w0 n T ls) (g : SNew w0 T T' (ls ++ m)) : Spn w0 n T' (ls ++ m) := fun k v hk => by
 rcases g k v hk with h1 | h1
 ·exact (h k v h1).app m
 ·exact h1 n
theorem Spn.le {w0 : World} {n n' : Nat} {T : List ((Option Nat × Option Nat) × Value)} {ls : List P2} (h : Spn w0 n T ls) (hn : n' ≤ n) : Spn w0 n' T ls := fun k v hk => (h k v hk).le hn
theorem Spn.nil (w0 : World) (n : Nat) (ls : List P2) : Spn w0 n [] ls := fun k v h => by simp [lkm] at h
theorem Spn.begin {w0 : World} {n : Nat} {T : List ((Option Nat × Option Nat) × Value)} {ls : List P2} {k0 : Option Nat × Option Nat} {x0 : List Bn} (h : Spn w0 n T ls) (h0 : EnvIs w0 (k0.1.bind at0) x0) (hn : n < sizes x0) :
  Spn w0 n (upm T k0 (spanV ls.length ls.length)) ls := fun k v hk => by
 rw [lkm_up] at hk
 split at hk
 ·rename_i e; subst e
  cases hk
  exact ⟨_, _, rfl, Nat.le_refl _, Nat.le_refl _, fun x y hx hy hs => by have := sizes_det hx h0; omega⟩
 ·exact h k v hk
/-- The pair is done. -/
theorem SNew.close {w0 : World} {T T' : List ((Option Nat × Option Nat) × Value)} {ls m : List P2} {k0 : Option Nat × Option Nat} {x0 y0 : List Bn} {v0 : Value} (h : SNew w0 (upm T k0 v0) T' (ls ++ m))
  (h0 : EnvIs w0 (k0.1.bind at0) x0) (h1 : EnvIs w0 (k0.2.bind at0) y0) (hm : mt x0 y0 = .ok m) : SNew w0 T (upm T' k0 (spanV ls.length (ls ++ m).length)) (ls ++ m) := fun k v hk => by
 rw [lkm_up] at hk
 split at hk
 ·rename_i e; subst e
  cases hk
  refine .inr fun n => ⟨_, _, rfl, by simp, Nat.le_refl _, fun x y hx hy hs => ?_⟩
  rw [mt_det hx h0 hy h1, hm, List.drop_append_of_le_length (Nat.le_refl _), List.drop_length, List.nil_append, List.length_append, Nat.add_sub_cancel_left, List.take_length]
 ·rename_i e
  rcases h k v hk with h2 | h2
  ·rw [lkm_up, if_neg e] at h2; exact .inl h2
  ·exact .inr h2

/-- No row of pairs. -/
def No48 (o : Obj) : Prop := ∀ cs fr, o ≠ .cells cs 48 fr
theorem no48 {cs : Array Value} {T : TypeId} {fr : Nat × Nat} (h : T ≠ 48) : No48 (.cells cs T fr) := fun cs' fr' e => by
 injection e with _ e _; exact h e
/-- What stands still where the map (b), the links' cell (cl) and rows of pairs may change. -/
structure Gf (b cl NB : Nat) (w w' : World) : Prop where
 size : w.heap.size ≤ w'.heap.size
 blk : ∀ k o, w.heap[k]? = some o → k ≠ b → k ≠ cl → No48 o → w'.heap[k]? = some o
 bel : ∀ N W, N ≤ b → N ≤ cl → N ≤ NB → Below N W w → Below N W w'
theorem Gf.refl (b cl NB : Nat) (w : World) : Gf b cl NB w w := ⟨Nat.le_refl _, fun _ _ h _ _ _ => h, fun _ _ _ _ _ h => h⟩
theorem Gf.of {b cl NB : Nat} {w w' : World} (h : Below w.heap.size w w') (hb : b ≤ w.heap.size) : Gf b cl NB w w' :=
 ⟨h.size, fun k o hk _ _ _ => heap_step hk h, fun N W hN _ _ hB => hB.trans (h.mono (Nat.le_trans hN hb))⟩
theorem Gf.trans {b cl NB : Nat} {w w1 w2 : World} (h : Gf b cl NB w w1) (g : Gf b cl NB w1 w2) : Gf b cl NB w w2 :=
 ⟨Nat.le_trans h.size g.size, fun k o hk h1 h2 h3 => g.blk k o (h.blk k o hk h1 h2 h3) h1 h2 h3, fun N W h1 h2 h3 hB => g.bel N W h1 h2 h3 (h.bel N W h1 h2 h3 hB)⟩
theorem Gf.map {b cl NB : Nat} {w w' : World} (hk : Kp b w w') (hb : ∀ N W, N ≤ b → Below N W w → Below N W w') : Gf b cl NB w w' := ⟨hk.size, fun k o hk' h1 _ _ => (hk.blk k (heap_lt hk') h1).trans hk', fun N W h1 _ _ h4 => hb N W h1 h4⟩
theorem own_at {T : TypeId} {w : World} {base : Nat} {v : Value} {l : List P2} (h : OwnP T w base v l) : ∀ g, v.ownBlock = some g → base ≤ g ∧ ∃ cs, w.heap[g]? = some (.cells cs T (0, 0)) := fun g hg => by
 obtain ⟨_, ⟨h0, _⟩ | ⟨g', c, cur, hv, hb, hgg, _⟩⟩ := h
 ·rw [h0] at hg; simp [Value.ownBlock] at hg
 ·rw [hv] at hg
  simp only [Value.ownBlock, Option.some.injEq] at hg
  subst hg
  exact ⟨hb, _, hgg⟩
theorem own_ne {w : World} {base k : Nat} {v : Value} {l : List P2} {o : Obj} (h : OwnP 48 w base v l) (hk : w.heap[k]? = some o) (ho : No48 o) : v.ownBlock ≠ some k := fun e => by
 obtain ⟨_, cs, hc⟩ := own_at h k e
 rw [hk] at hc
 exact ho cs (0, 0) (Option.some.inj hc)
theorem Gf.grown {b cl NB : Nat} {w w' : World} {v : Value} {l : List P2} (h : OwnP 48 w NB v l) (hg : w.grownBy w' v.ownBlock) (hb : NB ≤ w.heap.size) : Gf b cl NB w w' :=
 ⟨hg.size, fun k o hk _ _ h3 => grown_at hg hk (own_ne h hk h3), fun N W h1 h2 h3 hB => hB.grown hg (Nat.le_trans h3 hb) (fun k hk => Nat.le_trans h3 (own_at h k hk).1)⟩
theorem Gf.setL {b cl NB : Nat} (w : World) (j : Nat) (v : Value) : Gf b cl NB w (w.setCell ⟨cl, j, none⟩ v) :=
 ⟨by simp, fun k o hk h1 h2 _ => (Below.heap_setCell w ⟨cl, j, none⟩ v k h2).trans hk, fun N W h1 h2 _ hB => hB.setCell h2 v⟩
/-- The links' state. -/
structure Gs (w0 w : World) (NB b cm cl cw : Nat) (v : Value) (ls : List P2) (T : List ((Option Nat × Option Nat) × Value)) : Prop where
 nb : NB ≤ w.heap.size
 lo : b < NB ∧ cm < NB ∧ cl < NB ∧ cw < NB
 links : w.heap[cl]? = some (.cells #[v] 25 (0, 0))
 own : OwnP 48 w NB v ls
 mapc : w.heap[cm]? = some (.cells #[.map (some b)] 78 (0, 0))
 fn : w.heap[cw]? = some (.cells #[.func (.func 38) #[] #[.pointer (some ⟨cm, 0, none⟩), .pointer (some ⟨cl, 0, none⟩), .pointer (some ⟨cw, 0, none⟩)]] 79 (0, 0))
 tab : MapV pairV w b T
 gd : GdT w0 T
theorem Gs.step {w0 w w1 : World} {NB b cm cl cw : Nat} {v : Value} {ls : List P2} {T : List ((Option Nat × Option Nat) × Value)} (h : Gs w0 w NB b cm cl cw v ls T) (hw : Below w.heap.size w w1) : Gs w0 w1 NB b cm cl cw v ls T :=
 ⟨Nat.le_trans h.nb hw.size, h.lo, heap_step h.links hw, h.own.step hw, heap_step h.mapc hw, heap_step h.fn hw, h.tab.step hw, h.gd⟩
theorem Gs.ne {w0 w : World} {NB b cm cl cw : Nat} {v : Value} {ls : List P2} {T : List ((Option Nat × Option Nat) × Value)} (h : Gs w0 w NB b cm cl cw v ls T) : cl ≠ b ∧ cm ≠ b ∧ cw ≠ b ∧ cm ≠ cl ∧ cw ≠ cl := by
 obtain ⟨es, c, e1, e2⟩ := h.tab
 have h1 := h.links
 have h2 := h.mapc
 have h3 := h.fn
 refine ⟨?_, ?_, ?_, ?_, ?_⟩
 ·rintro rfl; rw [e1] at h1; cases h1
 ·rintro rfl; rw [e1] at h2; cases h2
 ·rintro rfl; rw [e1] at h3; cases h3
 ·rintro rfl; rw [h1] at h2; injection h2 with h2; injection h2 with _ h2 _; exact absurd h2 (by decide)
 ·rintro rfl; rw [h1] at h3; injection h3 with h3; injection h3 with _ h3 _; exact absurd h3 (by decide)
/-- Only the map has changed. -/
theorem Gs.mapped {w0 w w1 : World} {NB b cm cl cw : Nat} {v : Value} {ls : List P2} {T T' : List ((Option Nat × Option Nat) × Value)} (h : Gs w0 w NB b cm cl cw v ls T) (hk : Kp b w w1) (hm : MapV pairV w1 b T') (hg : GdT w0 T') : Gs w0 w1 NB b cm cl cw v ls T' := by
 obtain ⟨es, c, e1, e2⟩ := h.tab
 have hne := h.ne
 refine ⟨Nat.le_trans h.nb hk.size, h.lo, (hk.blk _ (heap_lt h.links) hne.1).trans h.links, ?_, (hk.blk _ (heap_lt h.mapc) hne.2.1).trans h.mapc, (hk.blk _ (heap_lt h.fn) hne.2.2.1).trans h.fn, hm, hg⟩
 obtain ⟨hl, h0 | ⟨g, cc, cur, hv, hb, hgg, hr⟩⟩ := h.own
 ·exact ⟨hl, .inl h0⟩
 ·exact ⟨hl, .inr ⟨g, cc, cur, hv, hb, (hk.blk g (heap_lt hgg) (fun e => by subst e; rw [e1] at hgg; cases hgg)).trans hgg, hr⟩⟩
/-- The row has grown, and lies in its cell. -/
theorem Gs.longer {w0 w w2 : World} {NB b cm cl cw : Nat} {v v' : Value} {ls ls' : List P2} {T : List ((Option Nat × Option Nat) × Value)} (h : Gs w0 w NB b cm cl cw v ls T) (hr : OwnP 48 w2 NB v' ls') (hg : w.grownBy w2 v.ownBlock) :
  Gs w0 (w2.setCell ⟨cl, 0, none⟩ v') NB b cm cl cw v' ls' T ∧ w2.heap[cl]? = some (.cells #[v] 25 (0, 0)) ∧ Gf b cl NB w (w2.setCell ⟨cl, 0, none⟩ v') := by
 obtain ⟨es, c, e1, e2⟩ := h.tab
 have hne := h.ne
 have at_ : ∀ k o, w.heap[k]? = some o → No48 o → w2.heap[k]? = some o := fun k o hk ho => grown_at hg hk (own_ne h.own hk ho)
 have hcl := at_ _ _ h.links (no48 (by decide))
 have hb := at_ _ _ e1 (fun cs fr e => by cases e)
 refine ⟨⟨by have := hg.size; have := h.nb; simp; omega, h.lo, box_set hcl, ?_, ?_, ?_, ⟨es, c, ?_, e2⟩, h.gd⟩, hcl, (Gf.grown h.own hg h.nb).trans (Gf.setL w2 0 v')⟩
 ·obtain ⟨hl, h0 | ⟨g, cc, cur, hv, hbb, hgg, hr⟩⟩ := hr
  ·exact ⟨hl, .inl h0⟩
  ·refine ⟨hl, .inr ⟨g, cc, cur, hv, hbb, (Below.heap_setCell w2 ⟨cl, 0, none⟩ v' g ?_).trans hgg, hr⟩⟩
   rintro rfl
   rw [hcl] at hgg; injection hgg with hgg; injection hgg with _ hgg _; exact absurd hgg (by decide)
 ·exact (Below.heap_setCell w2 ⟨cl, 0, none⟩ v' cm hne.2.2.2.1).trans (at_ _ _ h.mapc (no48 (by decide)))
 ·exact (Below.heap_setCell w2 ⟨cl, 0, none⟩ v' cw hne.2.2.2.2).trans (at_ _ _ h.fn (no48 (by decide)))
 ·exact (Below.heap_setCell w2 ⟨cl, 0, none⟩ v' b (fun e => hne.1 e.symm)).trans hb
end Go.Proofs.Ytagkpcnedccaiaa
