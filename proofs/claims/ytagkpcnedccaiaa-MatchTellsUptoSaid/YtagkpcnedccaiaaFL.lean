/-
  Maps whose keys are structs, as lists of keys and values.; Keys that are a space and a name; keys that are two environments.
-/
import Derived.Test.YtagkpcnedccaiaaFK
import Derived.MapKept
import Derived.Maps.OwnOps
import Derived.DeepKeys4
namespace Go.Proofs.Ytagkpcnedccaiaa
open Go.RowKit
set_option maxRecDepth 20000
set_option linter.unusedVariables false
set_option linter.unusedSimpArgs false

/-- How keys of a type are held against one another, in worlds where both are good. -/
structure KeyOK {α : Type} [DecidableEq α] (kt : TypeId) (kv : α → Value) (G : World → α → Prop) : Prop where
 check : ∀ e a w, (Instr.checkKey e 10000 kt (kv a)).run Try.prog w = .ok () w
 eq : ∀ a b w, G w a → G w b → (Op.equal kt (kv a) (kv b)).run Try.prog w = .ok (decide (a = b)) w
 now : ∃ d, Try.prog.underlying kt = some d ∧ ∀ a b, Instr.sameNow d (kv a) b = none
 bits : ∀ a, Instr.sameBits 10000 (kv a) (kv a) = true
 inj : ∀ a b, kv a = kv b → a = b
/-- A map's block, as a list. -/
def MapV {α : Type} (kv : α → Value) (w : World) (b : Nat) (l : List (α × Value)) : Prop :=
 ∃ es clock, w.heap[b]? = some (.map es clock) ∧ es.toList.map (fun e => (e.key, e.val)) = l.map (fun x => (kv x.1, x.2)) ∧ MapKept.Stamped es clock
theorem MapV.step {α : Type} {kv : α → Value} {w w1 : World} {b : Nat} {l : List (α × Value)} (h : MapV kv w b l) (hw : Below w.heap.size w w1) : MapV kv w1 b l := by
 obtain ⟨es, c, h1, h2⟩ := h; exact ⟨es, c, heap_step h1 hw, h2⟩
theorem MapV.made {α : Type} {kv : α → Value} (w : World) : MapV kv (w.alloc (.map #[] 0)) w.heap.size [] := ⟨#[], 0, heap_new _ _, rfl, MapKept.stamped_empty 0⟩
theorem MapV.lt {α : Type} {kv : α → Value} {w : World} {b : Nat} {l : List (α × Value)} (h : MapV kv w b l) : b < w.heap.size := by obtain ⟨es, c, h1, _⟩ := h; exact heap_lt h1

/-- What a store leaves. -/
structure MapTo {α : Type} (kv : α → Value) (w w' : World) (b : Nat) (l : List (α × Value)) : Prop where
 map : MapV kv w' b l
 kp : Kp b w w'
 bel : ∀ N W, N ≤ b → Below N W w → Below N W w'
theorem set_to {w : World} {b : Nat} {o o' : Obj} (hb : w.heap[b]? = some o) : Kp b w { w with heap := w.heap.setIfInBounds b o' } ∧ ({ w with heap := w.heap.setIfInBounds b o' } : World).heap[b]? = some o' ∧ ∀ N W, N ≤ b → Below N W w → Below N W { w with heap := w.heap.setIfInBounds b o' } := by
 obtain ⟨h1, h2⟩ := MapKept.heap_set (o' := o') hb
 refine ⟨⟨by simp, fun k _ hne => h2 k hne⟩, h1, fun N W hN hB => ⟨hB.os, hB.tape, hB.output, by simpa using hB.size, fun k hk => (h2 k (by omega)).trans (hB.block k hk)⟩⟩
section
variable {α : Type} [DecidableEq α] {kt : TypeId} {kv : α → Value} {G : World → α → Prop}
def lkm (l : List (α × Value)) (a : α) : Option Value := (l.find? (fun x => decide (x.1 = a))).map (·.2)
def upm (l : List (α × Value)) (a : α) (v : Value) : List (α × Value) := if a ∈ l.map (·.1) then l.map (fun x => if x.1 = a then (a, v) else x) else l ++ [(a, v)]
theorem lkm_up (l : List (α × Value)) (a c : α) (v : Value) : lkm (upm l a v) c = if a = c then some v else lkm l c := by
 unfold upm
 split
 ·rename_i h
  induction l with
  | nil => simp at h
  | cons x r ih =>
   simp only [lkm, List.map_cons, List.find?_cons] at ih ⊢
   by_cases hx : x.1 = a
   ·rw [if_pos hx]
    by_cases hc : a = c
    ·simp [hc]
    ·have : ¬ x.1 = c := fun e => hc (hx.symm.trans e)
     simp only [hc, this, decide_false, if_false]
     by_cases hr : a ∈ r.map (·.1)
     ·rw [ih hr, if_neg hc]
     ·congr 1
      have : r.map (fun x => if x.1 = a then (a, v) else x) = r := by
       conv => rhs; rw [← List.map_id r]
       refine List.map_congr_left fun y hy => ?_
       have : ¬ y.1 = a := fun e => hr (List.mem_map.2 ⟨y, hy, e⟩)
       simp [this]
      rw [this]
   ·rw [if_neg hx]
    have hr : a ∈ r.map (·.1) := by
     rcases List.mem_cons.1 (show a ∈ x.1 :: r.map (·.1) from h) with e | h
     ·exact absurd e.symm hx
     ·exact h
    by_cases hxc : x.1 = c
    ·have : ¬ a = c := fun e => hx (hxc.trans e.symm)
     simp [hxc, this]
    ·simp only [hxc, decide_false]
     exact ih hr
 ·rename_i h
  unfold lkm
  rw [List.find?_append]
  by_cases hc : a = c
  ·have : l.find? (fun x => decide (x.1 = c)) = none := List.find?_eq_none.2 fun x hx => by
    simp only [decide_eq_true_eq]; intro e; exact h (List.mem_map.2 ⟨x, hx, by rw [e, hc]⟩)
   rw [this]; simp [hc]
  ·simp [hc]
theorem upm_keys (l : List (α × Value)) (a : α) (v : Value) : ∀ x ∈ upm l a v, x.1 = a ∨ ∃ y ∈ l, y.1 = x.1 := by
 intro x hx
 unfold upm at hx
 split at hx
 ·obtain ⟨y, hy, rfl⟩ := List.mem_map.1 hx
  by_cases h : y.1 = a
  ·left; simp [h]
  ·right; exact ⟨y, hy, by simp [h]⟩
 ·rcases List.mem_append.1 hx with h | h
  ·exact .inr ⟨x, h, rfl⟩
  ·left; simp only [List.mem_singleton] at h; rw [h]
theorem upm_len (l : List (α × Value)) (a : α) (v : Value) : (upm l a v).length ≤ l.length + 1 := by unfold upm; split <;> simp

theorem find_asking (K : KeyOK kt kv G) (w : World) (a : α) (ha : G w a) : ∀ (es : List MapEntry) (l : List (α × Value)) (i : Nat), es.map (fun e => (e.key, e.val)) = l.map (fun x => (kv x.1, x.2)) → (∀ x ∈ l, G w x.1) →
  (lkm l a = none ∧ a ∉ l.map (·.1) ∧ (Instr.findAsking kt (kv a) es i).run Try.prog w = .ok none w) ∨ ∃ j e v, es[j]? = some e ∧ l[j]? = some (a, v) ∧ e.key = kv a ∧ e.val = v ∧ lkm l a = some v ∧ (Instr.findAsking kt (kv a) es i).run Try.prog w = .ok (some (i + j, v)) w
 | [], l, i, h, _ => by
  have : l = [] := by cases l with | nil => rfl | cons x r => simp at h
  subst this
  exact .inl ⟨rfl, by simp, by simp [Instr.findAsking]⟩
 | e :: es, [], i, h, _ => by simp at h
 | e :: es, x :: l, i, h, hg => by
  simp only [List.map_cons, List.cons.injEq, Prod.mk.injEq] at h
  obtain ⟨⟨hk, hv⟩, hr⟩ := h
  have hx := K.eq a x.1 w ha (hg x (by simp))
  rw [← hk] at hx
  by_cases hax : a = x.1
  ·right
   subst hax
   refine ⟨0, e, x.2, rfl, by simp, hk, hv, by simp [lkm], ?_⟩
   simp [Instr.findAsking, hx, Result.andThen, hv]
  ·have hxa : ¬ x.1 = a := fun e => hax e.symm
   rcases find_asking K w a ha es l (i + 1) hr (fun y hy => hg y (by simp [hy])) with ⟨h1, h2, h3⟩ | ⟨j, e', v, h1, h2, h3, h4, h5, h6⟩
   ·left
    refine ⟨by simp [lkm, hxa]; simpa [lkm] using h1, by simp [hax]; simpa using h2, ?_⟩
    simp [Instr.findAsking, hx, hax, Result.andThen, h3]
   ·right
    refine ⟨j + 1, e', v, h1, h2, h3, h4, by simp only [lkm, List.find?_cons, hxa, decide_false]; exact h5, ?_⟩
    simp [Instr.findAsking, hx, hax, Result.andThen, h6]
    omega
theorem find_key (K : KeyOK kt kv G) (w : World) (a : α) (ha : G w a) (es : List MapEntry) (l : List (α × Value)) (h : es.map (fun e => (e.key, e.val)) = l.map (fun x => (kv x.1, x.2))) (hg : ∀ x ∈ l, G w x.1) :
  (lkm l a = none ∧ a ∉ l.map (·.1) ∧ (Instr.findKey kt (kv a) es).run Try.prog w = .ok none w) ∨ ∃ j e v, es[j]? = some e ∧ l[j]? = some (a, v) ∧ e.key = kv a ∧ e.val = v ∧ lkm l a = some v ∧ (Instr.findKey kt (kv a) es).run Try.prog w = .ok (some (j, v)) w := by
 obtain ⟨d, hd, hn⟩ := K.now
 cases es with
 | nil =>
  have : l = [] := by cases l with | nil => rfl | cons x r => simp at h
  subst this
  exact .inl ⟨rfl, by simp, by simp [Instr.findKey, run_underlying hd, Instr.findNow, Result.andThen]⟩
 | cons e es =>
  have e1 : Instr.findNow d (kv a) (e :: es) 0 = none := by simp [Instr.findNow, hn]
  have e2 : (Instr.findKey kt (kv a) (e :: es)).run Try.prog w = (Instr.findAsking kt (kv a) (e :: es) 0).run Try.prog w := by
   simp [Instr.findKey, run_underlying hd, e1, Result.andThen]
  rw [e2]
  simpa using find_asking K w a ha (e :: es) l 0 h hg
theorem bits_run (K : KeyOK kt kv G) (a : α) (w : World) : (Instr.keyThatStays (kv a) (kv a)).run Try.prog w = .ok (kv a) w := by
 simp [Instr.keyThatStays, K.bits a]
theorem look_run (K : KeyOK kt kv G) {mt et : TypeId} {z : Value} (hm : Try.prog.underlying mt = some (.map kt et)) (w : World) (b : Nat) (l : List (α × Value)) (h : MapV kv w b l) (hg : ∀ x ∈ l, G w x.1) (a : α) (ha : G w a) (hz : (zeroValue et).run Try.prog w = .ok z w) (c : Bool) :
  (Instr.lookup mt (.map (some b)) (kv a) c).run Try.prog w = .ok (if c then .tuple #[(lkm l a).getD z, .bool (lkm l a).isSome] else (lkm l a).getD z) w := by
 obtain ⟨es, clock, hb, hl, hs⟩ := h
 rcases find_key K w a ha es.toList l hl hg with ⟨h1, h2, h3⟩ | ⟨j, e, v, h1, h2, h3, h4, h5, h6⟩
 ·cases c <;> simp [Instr.lookup, run_underlying hm, MapKept.run_getObj_map hb, K.check, h3, hz, Result.andThen, h1]
 ·cases c <;> simp [Instr.lookup, run_underlying hm, MapKept.run_getObj_map hb, K.check, h6, Result.andThen, h5]
theorem push_list {es : Array MapEntry} {l : List (α × Value)} {a : α} {v : Value} (n : Nat) (hl : es.toList.map (fun e => (e.key, e.val)) = l.map (fun x => (kv x.1, x.2))) (h : a ∉ l.map (·.1)) :
  (es.push { key := kv a, val := v, born := n }).toList.map (fun e => (e.key, e.val)) = (upm l a v).map (fun x => (kv x.1, x.2)) := by
 unfold upm
 rw [if_neg h]
 simp [hl]
theorem modify_list {es : Array MapEntry} {l : List (α × Value)} {a : α} {v v0 : Value} {j : Nat} (f : MapEntry → MapEntry) (hf : ∀ e, es[j]? = some e → (f e).key = kv a ∧ (f e).val = v) (hl : es.toList.map (fun e => (e.key, e.val)) = l.map (fun x => (kv x.1, x.2))) (hj : l[j]? = some (a, v0)) (hn : (l.map (·.1)).Nodup) :
  (es.modify j f).toList.map (fun e => (e.key, e.val)) = (upm l a v).map (fun x => (kv x.1, x.2)) := by
 have hm : a ∈ l.map (·.1) := List.mem_map.2 ⟨(a, v0), List.mem_of_getElem? hj, rfl⟩
 unfold upm
 rw [if_pos hm]
 apply List.ext_getElem?
 intro i
 have hi := congrArg (·[i]?) hl
 simp only [List.getElem?_map, Array.getElem?_toList] at hi ⊢
 rw [Array.getElem?_modify]
 by_cases hij : j = i
 ·subst hij
  rw [if_pos rfl]
  cases he : es[j]? with
  | none => rw [he, hj] at hi; simp at hi
  | some e => obtain ⟨h1, h2⟩ := hf e he; simp [hj, h1, h2]
 ·rw [if_neg hij]
  rw [hi]
  cases hx : l[i]? with
  | none => rfl
  | some x =>
   have : ¬ x.1 = a := fun e => hij (by
    have h1 : (l.map (·.1))[j]? = some a := by rw [List.getElem?_map, hj]; rfl
    have h2 : (l.map (·.1))[i]? = some a := by rw [List.getElem?_map, hx]; simp [e]
    have hjl : j < (l.map (·.1)).length := (List.getElem?_eq_some_iff.1 h1).1
    exact (List.getElem?_inj hjl hn).1 (h1.trans h2.symm))
   simp [this]
theorem keys_nodup (K : KeyOK kt kv G) {es : Array MapEntry} {clock : Nat} {l : List (α × Value)} (hl : es.toList.map (fun e => (e.key, e.val)) = l.map (fun x => (kv x.1, x.2))) (hs : MapKept.Stamped es clock) : (l.map (·.1)).Nodup := by
 have h1 := hs.2.2
 have h2 : es.toList.map (·.key) = (l.map (·.1)).map kv := by
  have := congrArg (List.map (fun x : Value × Value => x.1)) hl
  simpa [Function.comp_def] using this
 rw [h2] at h1
 exact List.Pairwise.imp (fun {a b} h e => h (by rw [e])) (List.pairwise_map.1 h1)
theorem keys_fresh {es : Array MapEntry} {l : List (α × Value)} {a : α} (K : KeyOK kt kv G) (hl : es.toList.map (fun e => (e.key, e.val)) = l.map (fun x => (kv x.1, x.2))) (h : a ∉ l.map (·.1)) : ∀ x ∈ es.toList, x.key ≠ kv a := by
 intro x hx e
 have h2 : es.toList.map (·.key) = (l.map (·.1)).map kv := by
  have := congrArg (List.map (fun x : Value × Value => x.1)) hl
  simpa [Function.comp_def] using this
 have : x.key ∈ (l.map (·.1)).map kv := by rw [← h2]; exact List.mem_map.2 ⟨x, hx, rfl⟩
 obtain ⟨c, hc, hce⟩ := List.mem_map.1 this
 rw [e] at hce
 rw [K.inj _ _ hce] at hc
 exact h hc
theorem upd_run (K : KeyOK kt kv G) {mt et : TypeId} (hm : Try.prog.underlying mt = some (.map kt et)) (w : World) (b : Nat) (l : List (α × Value)) (h : MapV kv w b l) (hg : ∀ x ∈ l, G w x.1) (a : α) (ha : G w a) (v : Value) :
  ∃ w', (Instr.mapUpdate mt (.map (some b)) (kv a) v).run Try.prog w = .ok () w' ∧ MapTo kv w w' b (upm l a v) := by
 obtain ⟨es, clock, hb, hl, hs⟩ := h
 rcases find_key K w a ha es.toList l hl hg with ⟨h1, h2, h3⟩ | ⟨j, e, v0, h1, h2, h3, h4, h5, h6⟩
 ·obtain ⟨k1, k2, k3⟩ := set_to (o' := .map (es.push { key := kv a, val := v, born := clock }) (clock + 1)) hb
  refine ⟨_, ?_, ⟨⟨_, _, k2, push_list clock hl h2, MapKept.stamped_push hs (keys_fresh K hl h2)⟩, k1, k3⟩⟩
  simp [Instr.mapUpdate, run_underlying hm, MapKept.run_getObj_map hb, K.check, h3, MapKept.run_setObj_map _ hb, Result.andThen]
 ·have hj : es[j]? = some e := by simpa using h1
  obtain ⟨k1, k2, k3⟩ := set_to (o' := .map (es.modify j fun e => { e with key := kv a, val := v }) clock) hb
  refine ⟨_, ?_, ⟨⟨_, _, k2, modify_list _ (fun e' _ => ⟨rfl, rfl⟩) hl h2 (keys_nodup K hl hs), MapKept.stamped_modify hs _ _ (fun _ _ => rfl) (fun e' _ he' => by rw [hj] at he'; cases he'; exact h3.symm)⟩, k1, k3⟩⟩
  simp [Instr.mapUpdate, run_underlying hm, MapKept.run_getObj_map hb, K.check, h6, hj, h3, bits_run K, MapKept.run_setObj_map _ hb, Result.andThen]
end
end Go.Proofs.Ytagkpcnedccaiaa

namespace Go.Proofs.Ytagkpcnedccaiaa
open Go.RowKit
set_option maxRecDepth 20000
set_option linter.unusedVariables false
set_option linter.unusedSimpArgs false

theorem held31 : Try.prog.stoodInHeld 27 = false := by kernel_rfl
theorem part3_0 (a b : Value) (w : World) : (part 3 #[a, b] 0).run Try.prog w = .ok a w := by
 simp [part, Try.isAgg3, Result.andThen]
theorem part9_1 (a b : Value) (w : World) : (part 9 #[a, b] 1).run Try.prog w = .ok b w := by
 simp [part, Try.isAgg9, Result.andThen]
theorem eqI (s t : Int) (w : World) : (Op.equalIn 9999 3 (.int .i64 s) (.int .i64 t)).run Try.prog w = .ok (decide (s = t)) w := by
 rw [show (9999 : Nat) = 9998 + 1 from rfl]
 unfold Op.equalIn
 by_cases h : s = t <;> simp [run_underlying Try.underlying3, Result.andThen, h]
theorem eqS (s t : ByteArray) (w : World) : (Op.equalIn 9999 9 (.string s) (.string t)).run Try.prog w = .ok (decide (s = t)) w := by
 rw [show (9999 : Nat) = 9998 + 1 from rfl]
 unfold Op.equalIn
 simp [run_underlying Try.underlying9, Result.andThen]
 by_cases h : s = t
 ·subst h; simp [MapKept.bytes_beq]
 ·simp only [h, decide_false]
  cases hb : (s == t) with
  | false => rfl
  | true => exact absurd ((MapKept.bytes_beq s t).1 hb) h
set_option maxHeartbeats 1000000 in
theorem key31_eq (a b : Ky) (w : World) : (Op.equal 27 (keyV a) (keyV b)).run Try.prog w = .ok (decide (a = b)) w := by
 obtain ⟨s, n⟩ := a
 obtain ⟨t, m⟩ := b
 unfold Op.equal Op.maxDepth keyV
 rw [show (10000 : Nat) = 9999 + 1 from rfl]
 unfold Op.equalIn
 simp [run_underlying Try.underlying27, held31, Result.andThen, part3_0, part9_1, eqI, eqS]
 by_cases h : s = t <;> by_cases h2 : n = m <;> simp [h, h2, Result.andThen, part9_1, eqS]
theorem check3 (e : Bool) (s : Int) (w : World) : (Instr.checkKey e 9999 3 (.int .i64 s)).run Try.prog w = .ok () w := by
 rw [show (9999 : Nat) = 9998 + 1 from rfl]
 unfold Instr.checkKey
 simp [run_underlying Try.underlying3, Result.andThen]
theorem check9 (e : Bool) (s : ByteArray) (w : World) : (Instr.checkKey e 9999 9 (.string s)).run Try.prog w = .ok () w := by
 rw [show (9999 : Nat) = 9998 + 1 from rfl]
 unfold Instr.checkKey
 simp [run_underlying Try.underlying9, Result.andThen]
theorem key31_check (e : Bool) (a : Ky) (w : World) : (Instr.checkKey e 10000 27 (keyV a)).run Try.prog w = .ok () w := by
 obtain ⟨s, n⟩ := a
 rw [show (10000 : Nat) = 9999 + 1 from rfl]
 unfold Instr.checkKey keyV
 simp [run_underlying Try.underlying27, Result.andThen, part3_0, part9_1, check3, check9]
theorem key31_ok : KeyOK 27 keyV (fun _ _ => True) where
 check := key31_check
 eq := fun a b w _ _ => key31_eq a b w
 now := ⟨_, Try.underlying27, fun a b => by unfold keyV; cases b <;> rfl⟩
 bits := fun a => by
  rw [show (10000 : Nat) = 9999 + 1 from rfl]
  simp [keyV, Instr.sameBits, MapKept.bytes_beq]
 inj := fun a b h => by
  obtain ⟨s, n⟩ := a; obtain ⟨t, m⟩ := b
  simp [keyV] at h
  simp [h]

/-- A pointer to a block, or none. -/
def ptrB (p : Option Nat) : Value := .pointer (p.bind at0)
/-- A pair of environments. -/
def pairV (x : Option Nat × Option Nat) : Value := .agg #[ptrB x.1, ptrB x.2]
def GoodB (w : World) (p : Option Nat) : Prop := ∀ g, p = some g → ∃ cs, w.heap[g]? = some (.cells cs 98 (0, 0))
theorem eqP (p q : Option Nat) (w : World) (hp : GoodB w p) (hq : GoodB w q) : (Op.equalIn 9999 30 (ptrB p) (ptrB q)).run Try.prog w = .ok (decide (p = q)) w := by
 rw [show (9999 : Nat) = 9998 + 1 from rfl]
 cases p with
 | none =>
  unfold Op.equalIn
  cases q <;> simp [ptrB, at0, run_underlying Try.underlying30, Result.andThen]
 | some a =>
  cases q with
  | none =>
   unfold Op.equalIn
   simp [ptrB, at0, run_underlying Try.underlying30, Result.andThen]
  | some b =>
   obtain ⟨ca, ha⟩ := hp a rfl
   obtain ⟨cb, hb⟩ := hq b rfl
   obtain ⟨j, hj, hjz⟩ := info57
   have := equalIn_ptr 9998 w a b ca cb 98 98 Try.underlying30 hj hjz ha hb
   simpa [ptrB] using this
theorem held71 : Try.prog.stoodInHeld 54 = false := by kernel_rfl
theorem part25_0 (a b : Value) (w : World) : (part 30 #[a, b] 0).run Try.prog w = .ok a w := by
 simp [part, Try.isAgg25, Result.andThen]
theorem part25_1 (a b : Value) (w : World) : (part 30 #[a, b] 1).run Try.prog w = .ok b w := by
 simp [part, Try.isAgg25, Result.andThen]
theorem check25 (e : Bool) (p : Option Nat) (w : World) : (Instr.checkKey e 9999 30 (ptrB p)).run Try.prog w = .ok () w := by
 rw [show (9999 : Nat) = 9998 + 1 from rfl]
 unfold Instr.checkKey
 simp [run_underlying Try.underlying30, Result.andThen]
theorem key71_ok : KeyOK 54 pairV (fun w x => GoodB w x.1 ∧ GoodB w x.2) where
 check := fun e a w => by
  obtain ⟨s, n⟩ := a
  rw [show (10000 : Nat) = 9999 + 1 from rfl]
  unfold Instr.checkKey pairV
  simp [run_underlying Try.underlying54, Result.andThen, part25_0, part25_1, check25]
 eq := fun a b w ha hb => by
  obtain ⟨s, n⟩ := a
  obtain ⟨t, m⟩ := b
  unfold Op.equal Op.maxDepth pairV
  rw [show (10000 : Nat) = 9999 + 1 from rfl]
  unfold Op.equalIn
  simp [run_underlying Try.underlying54, held71, Result.andThen, part25_0, part25_1, eqP s t w ha.1 hb.1, eqP n m w ha.2 hb.2]
  have e2 := eqP n m w ha.2 hb.2
  by_cases h : s = t <;> by_cases h2 : n = m <;> simp [h, h2, Result.andThen, part25_1] <;> (try (rw [h2] at e2)) <;> simp [e2, h2]
 now := ⟨_, Try.underlying54, fun a b => by unfold pairV; cases b <;> rfl⟩
 bits := fun a => by
  obtain ⟨s, n⟩ := a
  rw [show (10000 : Nat) = 9999 + 1 from rfl]
  simp [pairV, ptrB, Instr.sameBits]
 inj := fun a b h => by
  obtain ⟨s, n⟩ := a; obtain ⟨t, m⟩ := b
  simp only [pairV, ptrB, Value.agg.injEq, Array.mk.injEq, List.cons.injEq, Value.pointer.injEq, and_true] at h
  have key : ∀ p q : Option Nat, p.bind at0 = q.bind at0 → p = q := fun p q h => by
   cases p <;> cases q <;> simp [at0] at h <;> simp [h]
  simp [key _ _ h.1, key _ _ h.2]
end Go.Proofs.Ytagkpcnedccaiaa
