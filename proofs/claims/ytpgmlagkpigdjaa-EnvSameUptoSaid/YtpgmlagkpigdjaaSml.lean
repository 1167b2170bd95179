/-
  Same's row of pairs, and its map of those that were met: lemmas.
-/
import Derived.Test.YtpgmlagkpigdjaaWkl
import Derived.Test.YtpgmlagkpigdjaaTww
import Derived.WalkSmall
namespace Go.Proofs.Ytpgmlagkpigdjaa
open Go.RowKit
set_option maxRecDepth 20000
set_option linter.unusedVariables false
set_option linter.unusedSimpArgs false

def nO (p : Option Addr) : Option Nat := p.map (·.block)
theorem EnvAt.nO {w : World} {p : Option Addr} {l : List Bd} (h : EnvAt w p l) : p = (nO p).bind at0 ∧ GoodB w (nO p) := by
  rcases h with ⟨rfl, _⟩ | ⟨g, t, rfl, hl, hr⟩
  · exact ⟨rfl, fun g hg => by cases hg⟩
  · exact ⟨rfl, fun g' hg => by cases hg; exact hr.ty⟩
theorem EnvIs.nO {w : World} {p : Option Addr} {x : List Bn} (h : EnvIs w p x) : p = (nO p).bind at0 ∧ GoodB w (nO p) := by
  obtain ⟨L, h1, _⟩ := h; exact h1.nO
theorem GoodB.step {w w1 : World} {p : Option Nat} (h : GoodB w p) (hw : Below w.heap.size w w1) : GoodB w1 p := fun g hg => by
  obtain ⟨cs, hc⟩ := h g hg; exact ⟨cs, heap_step hc hw⟩
theorem bind_inj {a b : Option Nat} (h : a.bind at0 = b.bind at0) : a = b := by
  cases a <;> cases b <;> simp [at0] at h <;> simp [h]
theorem eql25 (a b : Option Nat) (w : World) (ha : GoodB w a) (hb : GoodB w b) : (binOp .eql 25 (ptrB a) (ptrB b)).run Try.prog w = .ok (.bool (decide (a = b))) w := by
  have h := eqP a b w ha hb
  have : (Op.equalIn 10000 25 (ptrB a) (ptrB b)).run Try.prog w = .ok (decide (a = b)) w := by
    cases a with
    | none =>
      rw [show (10000 : Nat) = 9999 + 1 from rfl]
      unfold Op.equalIn
      cases b <;> simp [ptrB, at0, run_underlying Try.underlying25, Result.andThen]
    | some g =>
      cases b with
      | none =>
        rw [show (10000 : Nat) = 9999 + 1 from rfl]
        unfold Op.equalIn
        simp [ptrB, at0, run_underlying Try.underlying25, Result.andThen]
      | some k =>
        obtain ⟨ca, hca⟩ := ha g rfl
        obtain ⟨cb, hcb⟩ := hb k rfl
        obtain ⟨j, hj, hjz⟩ := info57
        have := equalIn_ptr 9999 w g k ca cb 57 57 Try.underlying25 hj hjz hca hcb
        simpa [ptrB] using this
  unfold ptrB at this ⊢
  simp only [binOp]
  simp [Op.equal, Op.maxDepth, this]

def lcells (ls : List Pr) : List Value := ls.flatMap fun e => [.pointer e.p, .pointer e.q]
theorem lcells_append (a b : List Pr) : lcells (a ++ b) = lcells a ++ lcells b := by simp [lcells]
theorem lcells_length (l : List Pr) : (lcells l).length = l.length * 2 := by
  induction l with
  | nil => rfl
  | cons v r ih => simp only [lcells, List.flatMap_cons, List.length_append] at *; rw [ih]; simp; omega
def OwnL (w : World) (base : Nat) (v : Value) (ls : List Pr) : Prop := w.ownsRow base 71 2 v ls.length (lcells ls)
theorem OwnL.step {w w' : World} {base : Nat} {v : Value} {l : List Pr} (h : OwnL w base v l) (hw : Below w.heap.size w w') : OwnL w' base v l := by
  obtain ⟨hl, h0 | ⟨g, c, cur, hv, hb, hg, hr⟩⟩ := h
  · exact ⟨hl, .inl h0⟩
  · exact ⟨hl, .inr ⟨g, c, cur, hv, hb, heap_step hg hw, hr⟩⟩
theorem OwnL.nil {w : World} {base : Nat} {v : Value} (h : OwnL w base v []) : ∃ q c, v = .slice q 0 c := by
  obtain ⟨hl, ⟨h0, h1⟩ | ⟨g, c, cur, hv, hb, hg, hc, _⟩⟩ := h
  · exact ⟨_, _, h0⟩
  · exact ⟨_, _, hv⟩
/-- The last pair, and the row ahead of it. -/
theorem OwnL.last {w : World} {base : Nat} {v : Value} {ls : List Pr} {e : Pr} (h : OwnL w base v (ls ++ [e])) : ∃ g c, v = .slice (some ⟨g, 0, none⟩) (ls.length + 1) c ∧ ls.length + 1 ≤ c ∧ base ≤ g ∧ g < w.heap.size ∧
    w.cell? ⟨g, ls.length * 2, none⟩ = some (.pointer e.p) ∧ w.cell? ⟨g, ls.length * 2 + 1, none⟩ = some (.pointer e.q) ∧ OwnL w base (.slice (some ⟨g, 0, none⟩) ls.length c) ls := by
  have hlen : (ls ++ [e]).length = ls.length + 1 := by simp
  have h' : w.ownsRow base 71 2 v (ls.length + 1) (lcells ls ++ [.pointer e.p, .pointer e.q]) := by
    have := h; unfold OwnL at this; rw [hlen, lcells_append] at this; simpa [lcells] using this
  obtain ⟨g, c, rfl⟩ : ∃ g c, v = .slice (some ⟨g, 0, none⟩) (ls.length + 1) c := by
    obtain ⟨_, ⟨h0, h1⟩ | ⟨g, c, cur, hv, hb, hg, hc, _⟩⟩ := h'
    · cases h1
    · exact ⟨g, c, hv⟩
  have hb : base ≤ g ∧ g < w.heap.size := World.ownsRow.lt h' g rfl
  have hc : ls.length + 1 ≤ c := by
    obtain ⟨_, ⟨h0, h1⟩ | ⟨g, c, cur, hv, hb, hg, hc, _⟩⟩ := h'
    · cases h1
    · cases hv; exact hc
  refine ⟨g, c, rfl, hc, hb.1, hb.2, ?_, ?_, ownsRow_pop (lcells_length ls) h'⟩
  · rw [h'.cellAt (ls.length * 2) (by omega), List.getElem?_append_right (by rw [lcells_length]; omega), lcells_length, Nat.sub_self]; rfl
  · rw [h'.cellAt (ls.length * 2 + 1) (by omega), List.getElem?_append_right (by rw [lcells_length]; omega), lcells_length, show ls.length * 2 + 1 - ls.length * 2 = 1 by omega]; rfl
theorem sep_ty {w : World} {b b' s s' n n' : Nat} {e e' : TypeId} {v v' : Value} {xs xs' : List Value} (h : w.ownsRow b e s v n xs) (h' : w.ownsRow b' e' s' v' n' xs') (he : e ≠ e') : v.ownBlock = none ∨ v.ownBlock ≠ v'.ownBlock := by
  obtain ⟨_, ⟨rfl, _⟩ | ⟨g, c, cur, rfl, hb, hg, _⟩⟩ := h
  · exact .inl rfl
  · refine .inr ?_
    obtain ⟨_, ⟨rfl, _⟩ | ⟨g', c', cur', rfl, hb', hg', _⟩⟩ := h'
    · simp [Value.ownBlock]
    · simp only [Value.ownBlock, ne_eq, Option.some.injEq]
      rintro rfl
      rw [hg] at hg'
      simp only [Option.some.injEq, Obj.cells.injEq] at hg'
      exact he hg'.2.1
theorem MapV.kept {α : Type} {kv : α → Value} {w w' : World} {b : Nat} {l : List (α × Value)} {row : Option Nat} (h : MapV kv w b l) (hg : w.grownBy w' row) (hne : some b ≠ row) : MapV kv w' b l := by
  obtain ⟨es, c, h1, h2⟩ := h
  exact ⟨es, c, by rw [hg.block b (heap_lt h1) hne]; exact h1, h2⟩
theorem OwnL.notMap {w : World} {base b : Nat} {v : Value} {ls : List Pr} {es : Array MapEntry} {c : Nat} (h : OwnL w base v ls) (hb : w.heap[b]? = some (.map es c)) : some b ≠ v.ownBlock := by
  obtain ⟨_, ⟨rfl, _⟩ | ⟨g, c, cur, rfl, _, hg, _⟩⟩ := h
  · simp [Value.ownBlock]
  · simp only [Value.ownBlock, ne_eq, Option.some.injEq]
    rintro rfl
    rw [hb] at hg; cases hg
/-- The pairs that were met. -/
def domOf (tab : List ((Option Nat × Option Nat) × Value)) : List (Option Addr × Option Addr) := tab.map fun x => (x.1.1.bind at0, x.1.2.bind at0)
section
variable {α : Type} [DecidableEq α]
theorem upm_mem (l : List (α × Value)) (a : α) (v : Value) (k : α) : k ∈ (upm l a v).map (·.1) ↔ k ∈ l.map (·.1) ∨ k = a := by
  unfold upm
  split
  · rename_i h
    have : (l.map fun x => if x.1 = a then (a, v) else x).map (·.1) = l.map (·.1) := by
      rw [List.map_map]
      refine List.map_congr_left fun x _ => ?_
      by_cases hx : x.1 = a
      · simp [hx]
      · simp [hx]
    rw [this]
    exact ⟨.inl, fun h' => h'.elim id (fun e => e ▸ h)⟩
  · simp
theorem lkm_none (l : List (α × Value)) (a : α) : lkm l a = none ↔ a ∉ l.map (·.1) := by
  unfold lkm
  simp only [Option.map_eq_none_iff, List.find?_eq_none, decide_eq_true_eq, List.mem_map, not_exists, not_and]
end
theorem dom_mem (tab : List ((Option Nat × Option Nat) × Value)) (a b : Option Nat) : (a.bind at0, b.bind at0) ∈ domOf tab ↔ (a, b) ∈ tab.map (·.1) := by
  unfold domOf
  simp only [List.mem_map, Prod.mk.injEq]
  constructor
  · rintro ⟨x, hx, h1, h2⟩
    exact ⟨x, hx, Prod.ext (bind_inj h1) (bind_inj h2)⟩
  · rintro ⟨x, hx, h⟩
    exact ⟨x, hx, by rw [h], by rw [h]⟩
theorem dom_up (tab : List ((Option Nat × Option Nat) × Value)) (a b : Option Nat) (v : Value) : ∀ k, k ∈ domOf (upm tab (a, b) v) ↔ k ∈ domOf tab ∨ k = (a.bind at0, b.bind at0) := by
  intro k
  have hf : ∀ t : List ((Option Nat × Option Nat) × Value), k ∈ domOf t ↔ ∃ c ∈ t.map (·.1), (c.1.bind at0, c.2.bind at0) = k := fun t => by
    unfold domOf
    simp only [List.mem_map]
    constructor
    · rintro ⟨x, hx, h⟩; exact ⟨x.1, ⟨x, hx, rfl⟩, h⟩
    · rintro ⟨c, ⟨x, hx, rfl⟩, h⟩; exact ⟨x, hx, h⟩
  rw [hf, hf]
  constructor
  · rintro ⟨c, hc, rfl⟩
    rcases (upm_mem _ _ _ _).1 hc with h | rfl
    · exact .inl ⟨c, h, rfl⟩
    · exact .inr rfl
  · rintro (⟨c, hc, rfl⟩ | rfl)
    · exact ⟨c, (upm_mem _ _ _ _).2 (.inl hc), rfl⟩
    · exact ⟨(a, b), (upm_mem _ _ _ _).2 (.inr rfl), rfl⟩
/-- How often each pair was met: not more often than pairs were taken. -/
def Cts (tab : List ((Option Nat × Option Nat) × Value)) (m : Nat) : Prop := ∀ k v, lkm tab k = some v → ∃ c : Nat, v = .int .i64 c ∧ 1 ≤ c ∧ c ≤ m
theorem Cts.up {tab : List ((Option Nat × Option Nat) × Value)} {m m' : Nat} (h : Cts tab m) (k : Option Nat × Option Nat) (c : Nat) (hc : 1 ≤ c) (hcm : c ≤ m') (hm : m ≤ m') : Cts (upm tab k (.int .i64 c)) m' := fun k' v hv => by
  rw [lkm_up] at hv
  split at hv
  · cases hv; exact ⟨c, rfl, hc, hcm⟩
  · obtain ⟨c', h1, h2, h3⟩ := h k' v hv
    exact ⟨c', h1, h2, by omega⟩
def GdT (w : World) (tab : List ((Option Nat × Option Nat) × Value)) : Prop := ∀ x ∈ tab, GoodB w x.1.1 ∧ GoodB w x.1.2
theorem GdT.step {w w1 : World} {tab : List ((Option Nat × Option Nat) × Value)} (h : GdT w tab) (hw : Below w.heap.size w w1) : GdT w1 tab := fun x hx => ⟨(h x hx).1.step hw, (h x hx).2.step hw⟩
theorem GdT.up {w : World} {tab : List ((Option Nat × Option Nat) × Value)} (h : GdT w tab) (k : Option Nat × Option Nat) (v : Value) (hk : GoodB w k.1 ∧ GoodB w k.2) : GdT w (upm tab k v) := fun x hx => by
  have hx' : x.1 ∈ (upm tab k v).map (·.1) := List.mem_map.2 ⟨x, hx, rfl⟩
  rcases (upm_mem _ _ _ _).1 hx' with h1 | h1
  · obtain ⟨y, hy, hyx⟩ := List.mem_map.1 h1
    rw [← hyx]; exact h y hy
  · rw [h1]; exact hk
/-- Sizes of what is to come. -/
def Szs (ls : List Pr) : Prop := ∀ e ∈ ls, sizes e.x ≤ 4000 ∧ sizes e.y ≤ 4000
theorem Szs.kids {ls : List Pr} {e : Pr} {A B : List Bi} (h : Szs (ls ++ [e])) : ∀ k, Szs (ls ++ kidsTo A B (visN e.x) (visN e.y) k) := fun k f hf => by
  rcases List.mem_append.1 hf with hf | hf
  · exact h f (List.mem_append.2 (.inl hf))
  · obtain ⟨i, a, b, x, y, hi, ha, hb, hx, hy, he⟩ := kidsTo_mem hf
    have h1 := h e (by simp)
    have h2 := size_mem (visToN_mem _ _ _ (List.mem_of_getElem? hx))
    have h3 := size_mem (visToN_mem _ _ _ (List.mem_of_getElem? hy))
    have h4 := x.size_eq
    have h5 := y.size_eq
    rcases he with rfl | rfl <;> simp only <;> omega
theorem mu_kids (A B : List Bi) (x y : List Bn) : mu (kidsTo A B (visN x) (visN y) (visN x).length) ≤ 2 * sizes x := by
  have h1 := kidsTo_mu A B (visN x) (visN y) (visN x).length
  rw [List.take_length] at h1
  have h2 := sizes_visToN x x.length
  rw [List.take_length] at h2
  unfold visN at h1 ⊢
  omega
end Go.Proofs.Ytpgmlagkpigdjaa
