/-
  Maps whose keys are numbers, as lists of keys and values; sets of numbers.
-/
import Derived.Test.YtggoajpemffbiaaPlc
import Derived.MapKept
namespace Go.Proofs.Ytggoajpemffbiaa
open Go.RowKit Go.Maps
set_option maxRecDepth 20000
set_option linter.unusedVariables false
set_option linter.unusedSimpArgs false

theorem set_to {w : World} {b : Nat} {o o' : Obj} (hb : w.heap[b]? = some o) : Wr b w { w with heap := w.heap.setIfInBounds b o' } ∧ ({ w with heap := w.heap.setIfInBounds b o' } : World).heap[b]? = some o' := by
  obtain ⟨h1, h2⟩ := MapKept.heap_set (o' := o') hb
  exact ⟨⟨by simp, fun k hne => by
    by_cases hk : k = b
    · exact absurd hk hne
    · exact h2 k hk, fun N W hN hB => ⟨hB.os, hB.tape, hB.output, by simpa using hB.size, fun k hk => (h2 k (by omega)).trans (hB.block k hk)⟩⟩, h1⟩
section
variable {α : Type} [DecidableEq α]
def lkm (l : List (α × Value)) (a : α) : Option Value := (l.find? (fun x => decide (x.1 = a))).map (·.2)
def upm (l : List (α × Value)) (a : α) (v : Value) : List (α × Value) := if a ∈ l.map (·.1) then l.map (fun x => if x.1 = a then (a, v) else x) else l ++ [(a, v)]
theorem lkm_up (l : List (α × Value)) (a c : α) (v : Value) : lkm (upm l a v) c = if a = c then some v else lkm l c := by
  unfold upm
  split
  · rename_i h
    induction l with
    | nil => simp at h
    | cons x r ih =>
      simp only [lkm, List.map_cons, List.find?_cons] at ih ⊢
      by_cases hx : x.1 = a
      · rw [if_pos hx]
        by_cases hc : a = c
        · simp [hc]
        · have : ¬ x.1 = c := fun e => hc (hx.symm.trans e)
          simp only [hc, this, decide_false, if_false]
          by_cases hr : a ∈ r.map (·.1)
          · rw [ih hr, if_neg hc]
          · congr 1
            have : r.map (fun x => if x.1 = a then (a, v) else x) = r := by
              conv => rhs; rw [← List.map_id r]
              refine List.map_congr_left fun y hy => ?_
              have : ¬ y.1 = a := fun e => hr (List.mem_map.2 ⟨y, hy, e⟩)
              simp [this]
            rw [this]
      · rw [if_neg hx]
        have hr : a ∈ r.map (·.1) := by
          rcases List.mem_cons.1 (show a ∈ x.1 :: r.map (·.1) from h) with e | h
          · exact absurd e.symm hx
          · exact h
        by_cases hxc : x.1 = c
        · have : ¬ a = c := fun e => hx (hxc.trans e.symm)
          simp [hxc, this]
        · simp only [hxc, decide_false]
          exact ih hr
  · rename_i h
    unfold lkm
    rw [List.find?_append]
    by_cases hc : a = c
    · have : l.find? (fun x => decide (x.1 = c)) = none := List.find?_eq_none.2 fun x hx => by
        simp only [decide_eq_true_eq]; intro e; exact h (List.mem_map.2 ⟨x, hx, by rw [e, hc]⟩)
      rw [this]; simp [hc]
    · simp [hc]
theorem upm_keys (l : List (α × Value)) (a : α) (v : Value) : ∀ x ∈ upm l a v, x.1 = a ∨ ∃ y ∈ l, y.1 = x.1 := by
  intro x hx
  unfold upm at hx
  split at hx
  · obtain ⟨y, hy, rfl⟩ := List.mem_map.1 hx
    by_cases h : y.1 = a
    · left; simp [h]
    · right; exact ⟨y, hy, by simp [h]⟩
  · rcases List.mem_append.1 hx with h | h
    · exact .inr ⟨x, h, rfl⟩
    · left; simp only [List.mem_singleton] at h; rw [h]
theorem upm_len (l : List (α × Value)) (a : α) (v : Value) : (upm l a v).length ≤ l.length + 1 := by unfold upm; split <;> simp

end
abbrev IV := List (Int × Value)
/-- A map's block, as a list. -/
def MapI (w : World) (b : Nat) (l : IV) : Prop :=
  ∃ es clock, w.heap[b]? = some (.map es clock) ∧ es.toList.map (fun e => (e.key, e.val)) = l.map (fun x => (Value.int .i64 x.1, x.2)) ∧ MapKept.Stamped es clock ∧ ∀ x ∈ l, W64 x.1
theorem MapI.step {w w1 : World} {b : Nat} {l : IV} (h : MapI w b l) (hw : Below w.heap.size w w1) : MapI w1 b l := by
  obtain ⟨es, c, h1, h2⟩ := h; exact ⟨es, c, heap_step h1 hw, h2⟩
theorem MapI.wr {w w1 : World} {b g : Nat} {l : IV} (h : MapI w b l) (hw : Wr g w w1) (hb : b ≠ g) : MapI w1 b l := by
  obtain ⟨es, c, h1, h2⟩ := h; exact ⟨es, c, (hw.blk b hb).trans h1, h2⟩
theorem MapI.at {w w1 : World} {b : Nat} {l : IV} (h : MapI w b l) (hw : w1.heap[b]? = w.heap[b]?) : MapI w1 b l := by
  obtain ⟨es, c, h1, h2⟩ := h; exact ⟨es, c, hw.trans h1, h2⟩
theorem MapI.made (w : World) : MapI (w.alloc (.map #[] 0)) w.heap.size [] := ⟨#[], 0, heap_new _ _, rfl, MapKept.stamped_empty 0, fun x hx => by simp at hx⟩
theorem MapI.lt {w : World} {b : Nat} {l : IV} (h : MapI w b l) : b < w.heap.size := by obtain ⟨es, c, h1, _⟩ := h; exact heap_lt h1
theorem MapI.nocell {w : World} {b : Nat} {l : IV} (h : MapI w b l) {cs : Array Value} {T : TypeId} {fr : Nat × Nat} : w.heap[b]? ≠ some (.cells cs T fr) := by
  obtain ⟨es, c, h1, _⟩ := h; rw [h1]; intro e; cases e
theorem int_inj {a b : Int} (h : Value.int .i64 a = .int .i64 b) : a = b := by injection h
theorem keys_nodup {es : Array MapEntry} {clock : Nat} {l : IV} (hl : es.toList.map (fun e => (e.key, e.val)) = l.map (fun x => (Value.int .i64 x.1, x.2))) (hs : MapKept.Stamped es clock) : (l.map (·.1)).Nodup := by
  have h1 := hs.2.2
  have h2 : es.toList.map (·.key) = (l.map (·.1)).map (Value.int .i64) := by
    have := congrArg (List.map (fun x : Value × Value => x.1)) hl
    simpa [Function.comp_def] using this
  rw [h2] at h1
  exact List.Pairwise.imp (fun {a b} h e => h (by rw [e])) (List.pairwise_map.1 h1)
theorem lkm_get : ∀ {l : IV} {j : Nat} {a : Int} {v : Value}, (l.map (·.1)).Nodup → l[j]? = some (a, v) → lkm l a = some v
  | [], _, _, _, _, h => by simp at h
  | x :: r, 0, a, v, _, h => by simp at h; subst h; simp [lkm]
  | x :: r, j + 1, a, v, hn, h => by
    simp only [List.map_cons, List.nodup_cons] at hn
    simp only [List.getElem?_cons_succ] at h
    have ih := lkm_get hn.2 h
    have hne : ¬ x.1 = a := fun e => hn.1 (by rw [e]; exact List.mem_map.2 ⟨(a, v), List.mem_of_getElem? h, rfl⟩)
    simp only [lkm, List.find?_cons, hne, decide_false]
    exact ih
theorem lkm_no {l : IV} {a : Int} (h : a ∉ l.map (·.1)) : lkm l a = none := by
  unfold lkm
  have : l.find? (fun x => decide (x.1 = a)) = none := List.find?_eq_none.2 fun x hx => by
    simp only [decide_eq_true_eq]; intro e; exact h (List.mem_map.2 ⟨x, hx, e⟩)
  rw [this]; rfl
theorem find_int (w : World) {es : Array MapEntry} {clock : Nat} {l : IV} (hl : es.toList.map (fun e => (e.key, e.val)) = l.map (fun x => (Value.int .i64 x.1, x.2))) (hs : MapKept.Stamped es clock) (hw : ∀ x ∈ l, W64 x.1) {a : Int} (ha : W64 a) :
    (lkm l a = none ∧ a ∉ l.map (·.1) ∧ (∀ e ∈ es.toList, e.key ≠ .int .i64 a) ∧ (Instr.findKey 3 (.int .i64 a) es.toList).run Try.prog w = .ok none w) ∨ ∃ (j : Nat) (e : MapEntry), es[j]? = some e ∧ l[j]? = some (a, e.val) ∧ e.key = .int .i64 a ∧ lkm l a = some e.val ∧ (Instr.findKey 3 (.int .i64 a) es.toList).run Try.prog w = .ok (some (j, e.val)) w := by
  have hk : ∀ e ∈ es.toList, ∃ l, keyOf Try.prog 3 e.key = some l := fun e he => by
    have : (e.key, e.val) ∈ l.map (fun x => (Value.int .i64 x.1, x.2)) := by rw [← hl]; exact List.mem_map.2 ⟨e, he, rfl⟩
    obtain ⟨x, hx, e2⟩ := List.mem_map.1 this
    have := (Prod.mk.inj e2).1
    rw [← this]
    exact ⟨_, (hw x hx).key⟩
  rcases law3.find w ha.key es.toList hk with ⟨h1, h2⟩ | ⟨j, e, h1, h2, h3⟩
  · left
    have hn : a ∉ l.map (·.1) := fun hm => by
      obtain ⟨x, hx, e⟩ := List.mem_map.1 hm
      have : (Value.int .i64 x.1, x.2) ∈ es.toList.map (fun e => (e.key, e.val)) := by rw [hl]; exact List.mem_map.2 ⟨x, hx, rfl⟩
      obtain ⟨y, hy, e2⟩ := List.mem_map.1 this
      exact h2 y hy (by rw [(Prod.mk.inj e2).1, e])
    exact ⟨lkm_no hn, hn, h2, h1⟩
  · right
    have hj : es[j]? = some e := by simpa using h2
    have hlj : l[j]? = some (a, e.val) := by
      have := congrArg (·[j]?) hl
      simp only [List.getElem?_map, h2] at this
      cases hx : l[j]? with
      | none => rw [hx] at this; simp at this
      | some x =>
        rw [hx] at this
        simp only [Option.map_some, Option.some.injEq, Prod.mk.injEq] at this
        rw [h3] at this
        obtain ⟨x1, x2⟩ := x
        have h5 := int_inj this.1
        have h6 := this.2
        simp only at h5 h6
        rw [h5, h6]
    exact ⟨j, e, hj, hlj, h3, lkm_get (keys_nodup hl hs) hlj, h1⟩
theorem MapI.look {mt et : TypeId} {z : Value} (hm : Try.prog.underlying mt = some (.map 3 et)) {w : World} {b : Nat} {l : IV} (h : MapI w b l) {a : Int} (ha : W64 a) (hz : (zeroValue et).run Try.prog w = .ok z w) (c : Bool) :
    (Instr.lookup mt (.map (some b)) (.int .i64 a) c).run Try.prog w = .ok (if c then .tuple #[(lkm l a).getD z, .bool (lkm l a).isSome] else (lkm l a).getD z) w := by
  obtain ⟨es, clock, hb, hl, hs, hw⟩ := h
  have hc := fun em => law3.check w em ha.key
  rcases find_int w hl hs hw ha with ⟨h1, _, _, h3⟩ | ⟨j, e, _, _, _, h5, h6⟩
  · cases c <;> simp [Instr.lookup, run_underlying hm, MapKept.run_getObj_map hb, hc, h3, hz, Result.andThen, h1]
  · cases c <;> simp [Instr.lookup, run_underlying hm, MapKept.run_getObj_map hb, hc, h6, Result.andThen, h5]
theorem push_list {es : Array MapEntry} {l : IV} {a : Int} {v : Value} (n : Nat) (hl : es.toList.map (fun e => (e.key, e.val)) = l.map (fun x => (Value.int .i64 x.1, x.2))) (h : a ∉ l.map (·.1)) :
    (es.push { key := .int .i64 a, val := v, born := n }).toList.map (fun e => (e.key, e.val)) = (upm l a v).map (fun x => (Value.int .i64 x.1, x.2)) := by
  unfold upm
  rw [if_neg h]
  simp [hl]
theorem modify_list {es : Array MapEntry} {l : IV} {a : Int} {v v0 : Value} {j : Nat} (f : MapEntry → MapEntry) (hf : ∀ e, es[j]? = some e → (f e).key = .int .i64 a ∧ (f e).val = v) (hl : es.toList.map (fun e => (e.key, e.val)) = l.map (fun x => (Value.int .i64 x.1, x.2))) (hj : l[j]? = some (a, v0)) (hn : (l.map (·.1)).Nodup) :
    (es.modify j f).toList.map (fun e => (e.key, e.val)) = (upm l a v).map (fun x => (Value.int .i64 x.1, x.2)) := by
  have hm : a ∈ l.map (·.1) := List.mem_map.2 ⟨(a, v0), List.mem_of_getElem? hj, rfl⟩
  unfold upm
  rw [if_pos hm]
  apply List.ext_getElem?
  intro i
  have hi := congrArg (·[i]?) hl
  simp only [List.getElem?_map, Array.getElem?_toList] at hi ⊢
  rw [Array.getElem?_modify]
  by_cases hij : j = i
  · subst hij
    rw [if_pos rfl]
    cases he : es[j]? with
    | none => rw [he, hj] at hi; simp at hi
    | some e => obtain ⟨h1, h2⟩ := hf e he; simp [hj, h1, h2]
  · rw [if_neg hij]
    rw [hi]
    cases hx : l[i]? with
    | none => rfl
    | some x =>
      have : ¬ x.1 = a := fun e => hij (by
        have h1 : (l.map (·.1))[j]? = some a := by rw [List.getElem?_map, hj]; rfl
        have h2 : (l.map (·.1))[i]? = some a := by rw [List.getElem?_map, hx]; simp [e]
        have hjl : j < (l.map (·.1)).length := (List.getElem?_eq_some_iff.1 h1).1
        exact (List.getElem?_inj hjl hn).1 (h1.trans h2.symm))
      simp [this]
theorem MapI.upd {mt et : TypeId} (hm : Try.prog.underlying mt = some (.map 3 et)) {w : World} {b : Nat} {l : IV} (h : MapI w b l) {a : Int} (ha : W64 a) (v : Value) :
    ∃ w', (Instr.mapUpdate mt (.map (some b)) (.int .i64 a) v).run Try.prog w = .ok () w' ∧ MapI w' b (upm l a v) ∧ Wr b w w' := by
  obtain ⟨es, clock, hb, hl, hs, hw⟩ := h
  have hc := fun em => law3.check w em ha.key
  have hw' : ∀ x ∈ upm l a v, W64 x.1 := fun x hx => by
    rcases upm_keys l a v x hx with e | ⟨y, hy, e⟩
    · rw [e]; exact ha
    · rw [← e]; exact hw y hy
  rcases find_int w hl hs hw ha with ⟨h1, h2, h4, h3⟩ | ⟨j, e, h1, h2, h3, h5, h6⟩
  · obtain ⟨k1, k2⟩ := set_to (o' := .map (es.push { key := .int .i64 a, val := v, born := clock }) (clock + 1)) hb
    refine ⟨_, ?_, ⟨_, _, k2, push_list clock hl h2, MapKept.stamped_push hs h4, hw'⟩, k1⟩
    simp [Instr.mapUpdate, run_underlying hm, MapKept.run_getObj_map hb, hc, h3, MapKept.run_setObj_map _ hb, Result.andThen]
  · obtain ⟨k1, k2⟩ := set_to (o' := .map (es.modify j fun e => { e with key := .int .i64 a, val := v }) clock) hb
    refine ⟨_, ?_, ⟨_, _, k2, modify_list _ (fun e' _ => ⟨rfl, rfl⟩) hl h2 (keys_nodup hl hs), MapKept.stamped_modify hs _ _ (fun _ _ => rfl) (fun e' _ he' => by rw [h1] at he'; cases he'; exact h3.symm), hw'⟩, k1⟩
    simp [Instr.mapUpdate, run_underlying hm, MapKept.run_getObj_map hb, hc, h6, h1, h3, law3.stays w ha.key, MapKept.run_setObj_map _ hb, Result.andThen]

/-- A set of numbers. -/
def SetI (w : World) (b : Nat) (l : List Int) : Prop := MapI w b (l.map fun x => (x, .agg #[]))
def addI (l : List Int) (x : Int) : List Int := bif inI l x then l else l ++ [x]
theorem mem_addI {l : List Int} {x y : Int} : y ∈ addI l x ↔ y ∈ l ∨ y = x := by
  unfold addI
  cases h : inI l x with
  | true => have := (inI_iff _ _).1 h; simp; rintro rfl; exact this
  | false => simp
theorem addI_len (l : List Int) (x : Int) : (addI l x).length ≤ l.length + 1 := by unfold addI; cases inI l x <;> simp
theorem lkm_set (l : List Int) (x : Int) : lkm (l.map fun x => (x, Value.agg #[])) x = bif inI l x then some (.agg #[]) else none := by
  induction l with
  | nil => rfl
  | cons y r ih =>
    simp only [List.map_cons, lkm, List.find?_cons] at ih ⊢
    by_cases h : y = x
    · have : inI (y :: r) x = true := (inI_iff _ _).2 (by simp [h])
      rw [this]; simp [h]
    · have e : inI (y :: r) x = inI r x := by
        have h1 := inI_iff (y :: r) x
        have h2 := inI_iff r x
        have h3 : ¬ x = y := fun e => h e.symm
        cases a : inI (y :: r) x <;> cases b : inI r x <;> simp [a, b, h3] at h1 h2 <;> simp_all
      simp only [h, decide_false, e]
      exact ih
theorem upm_set (l : List Int) (x : Int) : upm (l.map fun x => (x, Value.agg #[])) x (.agg #[]) = (addI l x).map fun x => (x, Value.agg #[]) := by
  have hm : (l.map fun x => (x, Value.agg #[])).map (·.1) = l := by simp [Function.comp_def]
  unfold upm addI
  rw [hm]
  by_cases h : x ∈ l
  · rw [if_pos h, (inI_iff _ _).2 h]
    rw [List.map_map]
    refine List.map_congr_left fun y hy => ?_
    by_cases e : y = x <;> simp [e]
  · have : inI l x = false := by
      cases hc : inI l x with
      | false => rfl
      | true => exact absurd ((inI_iff _ _).1 hc) h
    rw [if_neg h, this]; simp
theorem SetI.step {w w1 : World} {b : Nat} {l : List Int} (h : SetI w b l) (hw : Below w.heap.size w w1) : SetI w1 b l := MapI.step h hw
theorem SetI.wr {w w1 : World} {b g : Nat} {l : List Int} (h : SetI w b l) (hw : Wr g w w1) (hb : b ≠ g) : SetI w1 b l := MapI.wr h hw hb
theorem SetI.at {w w1 : World} {b : Nat} {l : List Int} (h : SetI w b l) (hw : w1.heap[b]? = w.heap[b]?) : SetI w1 b l := MapI.at h hw
theorem SetI.made (w : World) : SetI (w.alloc (.map #[] 0)) w.heap.size [] := MapI.made w
theorem zero51 (w : World) : (zeroValue 51).run Try.prog w = .ok (.agg #[]) w := by kernel_rfl
theorem SetI.look {w : World} {b : Nat} {l : List Int} (h : SetI w b l) {a : Int} (ha : W64 a) :
    (Instr.lookup 48 (.map (some b)) (.int .i64 a) true).run Try.prog w = .ok (.tuple #[.agg #[], .bool (inI l a)]) w := by
  have := MapI.look Try.underlying48 h ha (zero51 w) true
  rw [this, lkm_set]
  cases inI l a <;> rfl
theorem SetI.upd {w : World} {b : Nat} {l : List Int} (h : SetI w b l) {a : Int} (ha : W64 a) :
    ∃ w', (Instr.mapUpdate 48 (.map (some b)) (.int .i64 a) (.agg #[])).run Try.prog w = .ok () w' ∧ SetI w' b (addI l a) ∧ Wr b w w' := by
  obtain ⟨w', h1, h2, h3⟩ := MapI.upd Try.underlying48 h ha (.agg #[])
  rw [upm_set] at h2
  exact ⟨w', h1, h2, h3⟩
end Go.Proofs.Ytggoajpemffbiaa
