/-
  A region in whatever order, with a condition on the world that holds till one operation, a store, comes up: what is loaded ahead of the store may be taken first.
-/
import Derived.Test.YtkjgkchdkeggoaaGreatDoorBase
import Derived.OrdersHeld
namespace Go.Proofs.YtkjgkchdkeggoaaGreatDoor
open Go.RowKit
set_option linter.unusedVariables false

section
variable {P : Program} {ops : Array Oper} {Q : Exit → Act → World → Prop} {S : World → Prop} {st : Nat}

/-- Whatever order is picked from here on; till st comes up, S holds behind each operation. -/
def wpTill (P : Program) (ops : Array Oper) (Q : Exit → Act → World → Prop) (S : World → Prop) (st : Nat) : Nat → Array Bool → Act → World → Prop
  | 0, listed, a, w => Region.ready .any ops listed = [] ∧ Q .normal a w
  | fuel + 1, listed, a, w => (Region.ready .any ops listed = [] → Q .normal a w) ∧
    ∀ i ∈ Region.ready .any ops listed, wpOp P ops Q i (fun a' w' => ((listed.setIfInBounds i true).getD st true = false → S w') ∧ wpTill P ops Q S st fuel (listed.setIfInBounds i true) a' w') a w
theorem wpAny_of_till : ∀ (fuel : Nat) (listed : Array Bool) (a : Act) (w : World), wpTill P ops Q S st fuel listed a w → wpAny P .any ops Q fuel listed a w
  | 0, _, _, _, h => h
  | fuel + 1, _, _, _, h => ⟨h.1, fun i hi => wpOp_mono (fun a' w' k => wpAny_of_till fuel _ a' w' k.2) (h.2 i hi)⟩

/-- Each of U has not come up, and waits for i or for one of U. -/
def waitsB (ops : Array Oper) (i : Nat) (listed : Array Bool) (U : List Nat) : Bool :=
  U.all fun u => (listed.getD u true == false) && match ops[u]? with
    | some o => o.after.any fun e => Region.binds .any e && (e.on == i || U.contains e.on)
    | none => false
theorem getD_flip {l : Array Bool} {i : Nat} (h : l.getD i true = false) : l.getD i false = false := by
  rcases Nat.lt_or_ge i l.size with h' | h'
  · simp [h'] at h ⊢; exact h
  · simp [Array.getElem?_eq_none h']
theorem waits_spec {i : Nat} {listed : Array Bool} {U : List Nat} (h : waitsB ops i listed U = true) (hi : listed.getD i true = false) : ∀ u ∈ U, listed.getD u true = false ∧ u ∉ Region.ready .any ops listed := by
  have hall : ∀ u ∈ U, listed.getD u true = false := fun u hu => by
    have := List.all_eq_true.1 h u hu
    simp only [Bool.and_eq_true, beq_iff_eq] at this
    exact this.1
  intro u hu
  refine ⟨hall u hu, fun hr => ?_⟩
  obtain ⟨_, o, ho, hwait⟩ := mem_ready.1 hr
  have h2 := List.all_eq_true.1 h u hu
  simp only [Bool.and_eq_true, ho] at h2
  obtain ⟨e, he, hb⟩ := Array.any_eq_true'.1 h2.2
  simp only [Bool.and_eq_true, Bool.or_eq_true, beq_iff_eq] at hb
  have h3 := hwait e he hb.1
  rcases hb.2 with h4 | h4
  · rw [h4, getD_flip hi] at h3; cases h3
  · rw [getD_flip (hall _ (List.contains_iff_mem.1 h4))] at h3; cases h3
theorem waits_next {i j : Nat} {listed : Array Bool} {U : List Nat} (h : waitsB ops i listed U = true) (hj : j ∉ U) : waitsB ops i (listed.setIfInBounds j true) U = true := by
  refine List.all_eq_true.2 fun u hu => ?_
  have := List.all_eq_true.1 h u hu
  rw [getD_set_ne true (show j ≠ u from fun e => hj (e ▸ hu))]
  exact this

theorem wpTill_first {i : Nat} {oi : Oper} {v : Value} {U : List Nat} (hi : ops[i]? = some oi) (hst : st ∈ U) (hiU : i ∉ U) (hsel : ∀ (j : Nat) (o : Oper) cs b, ops[j]? = some o → o.op ≠ .select cs b)
    (hQ : ∀ c a w, Q (.panic c) (a.put oi.dst v) w → Q (.panic c) a w) :
    ∀ (fuel : Nat) (listed : Array Bool) (a : Act) (w : World),
      (∀ j oj, ops[j]? = some oj → j ≠ i → listed.getD j true = false → (∀ e ∈ oj.after, Region.binds .any e = true → e.on ≠ i) → oi.apart ops oj = true) →
      i ∈ Region.ready .any ops listed → waitsB ops i listed U = true → YieldsIf P ops S oi v a → S w →
      wpTill P ops Q S st fuel (listed.setIfInBounds i true) (a.put oi.dst v) w → wpTill P ops Q S st (fuel + 1) listed a w := by
  intro fuel
  induction fuel with
  | zero =>
    intro listed a w _ hr _ hy hS H
    refine ⟨fun h => (by rw [h] at hr; cases hr), fun j hj => ?_⟩
    by_cases hji : j = i
    · subst hji; exact hy.wpOp hi hS ⟨fun _ => hS, H⟩
    · have := ready_mono hj hji
      rw [H.1] at this
      cases this
  | succ fuel ih =>
    intro listed a w hfree hr hw hy hS H
    refine ⟨fun h => (by rw [h] at hr; cases hr), fun j hj => ?_⟩
    have hi0 := (mem_ready.1 hr).1
    have hU := waits_spec hw hi0
    by_cases hji : j = i
    · subst hji; exact hy.wpOp hi hS ⟨fun _ => hS, H⟩
    · have h1 := H.2 j (ready_mono hj hji)
      obtain ⟨hjun, oj, hoj, hall⟩ := mem_ready.1 hj
      have hjU : j ∉ U := fun h => (hU j h).2 hj
      have hnot : ∀ e ∈ oj.after, Region.binds .any e = true → e.on ≠ i := fun e he hb heq => by
        have h2 := hall e he hb
        rw [heq, getD_flip hi0] at h2
        cases h2
      have h2 := wpOp_putIf hoj (hfree j oj hoj hji hjun hnot) (fun cs b => hsel i oi cs b hi) (fun cs b => hsel j oj cs b hoj) hQ hy h1
      have hfree' : ∀ k ok, ops[k]? = some ok → k ≠ i → (listed.setIfInBounds j true).getD k true = false →
          (∀ e ∈ ok.after, Region.binds .any e = true → e.on ≠ i) → oi.apart ops ok = true := fun k ok hk hki hun hno => by
        refine hfree k ok hk hki ?_ hno
        by_cases hjk : j = k
        · subst hjk; exact hjun
        · rw [getD_set_ne true hjk] at hun; exact hun
      refine wpOp_mono (fun a' w' h3 => ?_) h2
      have hS' : S w' := h3.2.1 (by
        rw [getD_set_ne true (show j ≠ st from fun e => hjU (e ▸ hst)), getD_set_ne true (show i ≠ st from fun e => hiU (e ▸ hst))]
        exact (hU st hst).1)
      refine ⟨fun _ => hS', ih (listed.setIfInBounds j true) a' w' hfree' (ready_mono hr (Ne.symm hji)) (waits_next hw hjU) h3.1 hS' ?_⟩
      rw [Array.setIfInBounds_comm _ _ hji]
      exact h3.2.2

/-- Number i first. -/
theorem wpTill_take (i : Nat) (U : List Nat) {oi : Oper} {v : Value} {fuel : Nat} {listed : Array Bool} {a : Act} {w : World} (hi : ops[i]? = some oi)
    (hs : Region.noSelect ops = true) (hf : Region.free .any ops listed i = true) (hr : (Region.ready .any ops listed).contains i = true) (hU : (waitsB ops i listed U && U.contains st && !U.contains i) = true)
    (hQ : ∀ c a w, Q (.panic c) (a.put oi.dst v) w → Q (.panic c) a w) (hy : YieldsIf P ops S oi v a) (hS : S w)
    (h : wpTill P ops Q S st fuel (listed.setIfInBounds i true) (a.put oi.dst v) w) : wpTill P ops Q S st (fuel + 1) listed a w := by
  simp only [Bool.and_eq_true, Bool.not_eq_true'] at hU
  exact wpTill_first hi (List.contains_iff_mem.1 hU.1.2) (fun h => by rw [List.contains_iff_mem.2 h] at hU; cases hU.2) (Region.noSelect_spec hs) hQ fuel listed a w (Region.free_spec hi hf) (by simpa using hr) hU.1.1 hy hS h
/-- Only number i may come up. -/
theorem wpTill_one (i : Nat) {o : Oper} {fuel : Nat} {listed : Array Bool} {a : Act} {w : World} (hr : Region.ready .any ops listed = [i]) (ho : ops[i]? = some o)
    (h : ∀ K' : Act → World → Prop, Hid (∀ a w, ((listed.setIfInBounds i true).getD st true = false → S w) → wpTill P ops Q S st fuel (listed.setIfInBounds i true) a w → K' a w) → if Region.wanted o (yielded ops a.tmps) = true then Oper.wp P o a w K' Q else K' (a.put o.dst undef) w) :
    wpTill P ops Q S st (fuel + 1) listed a w := by
  refine ⟨fun h0 => (by rw [hr] at h0; cases h0), fun j hj => ?_⟩
  rw [hr] at hj
  obtain rfl := List.mem_singleton.1 hj
  exact wpOp_step ho (fun K' hK => h K' (Lib.hid fun a w h1 h2 => hK a w ⟨h1, h2⟩))
theorem wpTill_done {listed : Array Bool} {a : Act} {w : World} (hr : Region.ready .any ops listed = []) (h : Q .normal a w) : ∀ fuel, wpTill P ops Q S st fuel listed a w
  | 0 => ⟨hr, h⟩
  | _ + 1 => ⟨fun _ => h, by rw [hr]; simp⟩
theorem wp_region_till {id : Nat} {a : Act} {w : World} (S : World → Prop) (st : Nat) (hm : P.follows .mixedOrders = true)
    (h : wpTill P ops Q S st ops.size (Array.replicate ops.size false) a w.drew) : (Code.region id ops true).wp P Q a w :=
  wp_region_any hm (wpAny_of_till _ _ _ _ h)
end
end Go.Proofs.YtkjgkchdkeggoaaGreatDoor
