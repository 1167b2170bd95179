/-
  A region whose frame is a letter: what its slots hold is said in a list; each operation adds a line to it.
-/
import Derived.Test.YtkjgkchdkeggoaaGreatDoorTill
namespace Go.Proofs.YtkjgkchdkeggoaaGreatDoor
open Go.RowKit
set_option linter.unusedVariables false

/-- A frame of N slots with nothing deferred, some of whose slots are known. -/
def Fs (a : Act) (N : Nat) (L : List (Nat × Value)) : Prop :=
  a.tmps.size = N ∧ a.defers = [] ∧ ∀ k v, L.lookup k = some v → a.eval (.tmp k) = v
theorem Fs.get {a : Act} {N : Nat} {L : List (Nat × Value)} (h : Fs a N L) (k : Nat) {v : Value} (hk : L.lookup k = some v) : a.eval (.tmp k) = v := h.2.2 k v hk
theorem Fs.put {a : Act} {N : Nat} {L : List (Nat × Value)} (h : Fs a N L) {d : Nat} (hd : d < N) (v : Value) : Fs (a.put (some d) v) N ((d, v) :: L) := by
  obtain ⟨hs, hf, hl⟩ := h
  refine ⟨by simp [Act.put, hs], by simp [Act.put, hf], fun k x hk => ?_⟩
  by_cases hkd : k = d
  · subst hkd
    simp only [List.lookup, beq_self_eq_true] at hk
    have hx : v = x := Option.some.inj hk
    subst hx
    simp [Act.eval, Act.put, hs, hd]
  · have hb : (k == d) = false := by simp [hkd]
    simp only [List.lookup, hb] at hk
    have := hl k x hk
    simp only [Act.eval] at this ⊢
    rw [← this]
    simp [Act.put, Ne.symm hkd]
theorem wanted_none {o : Oper} {y : Nat → Option Bool} (h : o.guard = none) : Region.wanted o y = true := by
  unfold Region.wanted; rw [h]
theorem Fs.wanted {a : Act} {N : Nat} {L : List (Nat × Value)} (h : Fs a N L) {ops : Array Oper} {o : Oper} {j dj : Nat} (hg : o.guard = some (j, true)) (hd : (ops[j]?).bind (·.dst) = some dj) (hN : dj < N) (hl : L.lookup dj = some (.bool true)) :
    Region.wanted o (yielded ops a.tmps) = true := by
  have h1 := h.get dj hl
  have h2 : a.tmps[dj]? = some (.bool true) := by
    have hlt : dj < a.tmps.size := by rw [h.1]; exact hN
    rw [Array.getElem?_eq_getElem hlt]
    simp only [Act.eval, Array.getD_eq_getD_getElem?, Array.getElem?_eq_getElem hlt, Option.getD_some] at h1
    rw [h1]
  unfold Region.wanted
  rw [hg]
  simp [yielded, hd, h2]

section
variable {P : Program} {ops : Array Oper} {Q : Exit → Act → World → Prop} {S : World → Prop} {st : Nat}

theorem take_fs (i : Nat) {oi : Oper} {d : Nat} {v : Value} {N : Nat} {L : List (Nat × Value)} {fuel : Nat} {listed : Array Bool} {a : Act} {w : World} (hF : Fs a N L) (hQ : ∀ c (a a' : Act) w, a'.defers = a.defers → Q (.panic c) a w → Q (.panic c) a' w) (hS : S w) (hi : ops[i]? = some oi) (hd : oi.dst = some d) (hdN : d < N)
    (hs : Region.noSelect ops = true) (hf : Region.free .any ops listed i = true) (hr : (Region.ready .any ops listed).contains i = true) (hU : (waitsB ops i listed [st] && [st].contains st && ![st].contains i) = true)
    (hw : ∀ a', Fs a' N L → Region.wanted oi (yielded ops a'.tmps) = true)
    (hrun : ∀ a', Fs a' N L → ∀ w', S w' → (execOp a'.eval oi).run P w' = .ok (.value v) w')
    (h : ∀ a', Fs a' N ((d, v) :: L) → wpTill P ops Q S st fuel (listed.setIfInBounds i true) a' w) : wpTill P ops Q S st (fuel + 1) listed a w := by
  refine wpTill_take i [st] hi hs hf hr hU (fun c a w h => hQ c (a.put oi.dst v) a w (by rw [hd]; rfl) h) (Or.inl ⟨hw a hF, hrun a hF⟩) hS ?_
  rw [hd]
  exact h _ (hF.put hdN v)
theorem call_fs (i : Nat) {oi : Oper} {d : Nat} {f : FuncId} {args : Array Value} {N : Nat} {L : List (Nat × Value)} {R : Value → World → Prop} {fuel : Nat} {listed : Array Bool} {a : Act} {w : World} (hF : Fs a N L) (hi : ops[i]? = some oi) (hd : oi.dst = some d) (hdN : d < N)
    (hr : Region.ready .any ops listed = [i])
    (hw : ∀ a', Fs a' N L → Region.wanted oi (yielded ops a'.tmps) = true)
    (hrun : ∀ a', Fs a' N L → (execOp a'.eval oi).run P w = .ok (.enter f args) w)
    (hc : Calls P f args w fun e w' => ∃ v, e = .returned v ∧ R v w' ∧ S w')
    (h : ∀ a' v w', Fs a' N ((d, v) :: L) → R v w' → S w' → wpTill P ops Q S st fuel (listed.setIfInBounds i true) a' w') : wpTill P ops Q S st (fuel + 1) listed a w := by
  refine wpTill_one i hr hi ?_
  intro K' hK
  rw [if_pos (hw a hF)]
  unfold Oper.wp
  rw [hrun a hF, Oper.upon_enter]
  refine hc.mono ?_
  rintro e w' ⟨v, rfl, hR, hS⟩
  refine hK.out _ _ (fun _ => hS) ?_
  rw [hd]
  exact h _ v w' (hF.put hdN v) hR hS
theorem last_fs (i : Nat) {oi : Oper} {d : Nat} {v : Value} {N : Nat} {L : List (Nat × Value)} {fuel : Nat} {listed : Array Bool} {a : Act} {w : World} (hF : Fs a N L) (hi : ops[i]? = some oi) (hd : oi.dst = some d) (hdN : d < N) (hst : (listed.setIfInBounds i true).getD st true = true)
    (hr : Region.ready .any ops listed = [i]) (hr2 : Region.ready .any ops (listed.setIfInBounds i true) = [])
    (hw : ∀ a', Fs a' N L → Region.wanted oi (yielded ops a'.tmps) = true)
    (hrun : ∀ a', Fs a' N L → (execOp a'.eval oi).run P w = .ok (.value v) w)
    (h : ∀ a', Fs a' N ((d, v) :: L) → Q .normal a' w) : wpTill P ops Q S st (fuel + 1) listed a w := by
  refine wpTill_one i hr hi ?_
  intro K' hK
  rw [if_pos (hw a hF)]
  unfold Oper.wp
  rw [hrun a hF, Oper.upon_value]
  refine hK.out _ _ (fun h => absurd (hst.symm.trans h) (by decide)) ?_
  rw [hd]
  exact wpTill_done hr2 (h _ (hF.put hdN v)) _
theorem run_move_fs {k : Nat} {v : Value} {N : Nat} {L : List (Nat × Value)} {o : Oper} (ho : o.op = .move (.tmp k)) (hk : L.lookup k = some v) : ∀ a', Fs a' N L → ∀ w', S w' → (execOp a'.eval o).run P w' = .ok (.value v) w' := fun a' h w' _ => by
  rw [BigFrame.run_move (.tmp k) ho, h.get k hk]
end
theorem Fs.of {a : Act} {N : Nat} {L : List (Nat × Value)} (hs : a.tmps.size = N) (hd : a.defers = []) (h : ∀ p ∈ L, a.eval (.tmp p.1) = p.2) : Fs a N L := by
  refine ⟨hs, hd, fun k v hk => ?_⟩
  induction L with
  | nil => simp at hk
  | cons p r ih =>
    obtain ⟨j, x⟩ := p
    by_cases hkj : k = j
    · subst hkj
      simp only [List.lookup, beq_self_eq_true] at hk
      rw [← Option.some.inj hk]
      exact h _ (List.mem_cons_self ..)
    · have hb : (k == j) = false := by simp [hkj]
      simp only [List.lookup, hb] at hk
      exact ih (fun q hq => h q (List.mem_cons_of_mem _ hq)) hk
theorem Fs.wantedB {a : Act} {N : Nat} {L : List (Nat × Value)} (h : Fs a N L) {ops : Array Oper} {o : Oper} {j dj : Nat} {b : Bool} (hg : o.guard = some (j, b)) (hd : (ops[j]?).bind (·.dst) = some dj) (hN : dj < N) (hl : L.lookup dj = some (.bool b)) :
    Region.wanted o (yielded ops a.tmps) = true := by
  have h1 := h.get dj hl
  have h2 : a.tmps[dj]? = some (.bool b) := by
    have hlt : dj < a.tmps.size := by rw [h.1]; exact hN
    rw [Array.getElem?_eq_getElem hlt]
    simp only [Act.eval, Array.getD_eq_getD_getElem?, Array.getElem?_eq_getElem hlt, Option.getD_some] at h1
    rw [h1]
  unfold Region.wanted
  rw [hg]
  simp [yielded, hd, h2]
theorem Fs.unwanted {a : Act} {N : Nat} {L : List (Nat × Value)} (h : Fs a N L) {ops : Array Oper} {o : Oper} {j dj : Nat} {b : Bool} {v : Value} (hg : o.guard = some (j, b)) (hd : (ops[j]?).bind (·.dst) = some dj) (hN : dj < N) (hl : L.lookup dj = some v) (hv : v ≠ .bool b) :
    Region.wanted o (yielded ops a.tmps) = false := by
  have h1 := h.get dj hl
  have h2 : a.tmps[dj]? = some v := by
    have hlt : dj < a.tmps.size := by rw [h.1]; exact hN
    rw [Array.getElem?_eq_getElem hlt]
    simp only [Act.eval, Array.getD_eq_getD_getElem?, Array.getElem?_eq_getElem hlt, Option.getD_some] at h1
    rw [h1]
  unfold Region.wanted
  rw [hg]
  simp only [yielded, hd, h2, Option.bind_some]
  cases v <;> first | rfl | (rename_i q; cases q <;> cases b <;> first | rfl | exact absurd rfl hv)

section
variable {P : Program} {ops : Array Oper} {Q : Exit → Act → World → Prop} {S : World → Prop} {st : Nat}
/-- With the frame written on. -/
theorem start_fp {N : Nat} (L : List (Nat × Value)) {fuel : Nat} {listed : Array Bool} {a : Act} {w : World} (hF : Fs a N L) (h : ∀ a0, a0 = a → Fs a0 N L → wpTill P ops Q S st fuel listed a0 w) : wpTill P ops Q S st fuel listed a w := h a rfl hF
theorem take_fp (i : Nat) (U : List Nat) {oi : Oper} {d : Nat} {v : Value} {N : Nat} {L : List (Nat × Value)} {fuel : Nat} {listed : Array Bool} {a : Act} {w : World} (hF : Fs a N L) (hS : S w) (hi : ops[i]? = some oi) (hd : oi.dst = some d) (hdN : d < N)
    (hs : Region.noSelect ops = true) (hf : Region.free .any ops listed i = true) (hr : (Region.ready .any ops listed).contains i = true) (hU : (waitsB ops i listed U && U.contains st && !U.contains i) = true)
    (hQ : ∀ c a w, Q (.panic c) (a.put (some d) v) w → Q (.panic c) a w)
    (hw : ∀ a', Fs a' N L → Region.wanted oi (yielded ops a'.tmps) = true)
    (hrun : ∀ a', Fs a' N L → ∀ w', S w' → (execOp a'.eval oi).run P w' = .ok (.value v) w')
    (h : Fs (a.put (some d) v) N ((d, v) :: L) → wpTill P ops Q S st fuel (listed.setIfInBounds i true) (a.put (some d) v) w) : wpTill P ops Q S st (fuel + 1) listed a w := by
  refine wpTill_take i U hi hs hf hr hU (fun c a w h => by rw [hd] at h; exact hQ c a w h) (Or.inl ⟨hw a hF, hrun a hF⟩) hS ?_
  rw [hd]
  exact h (hF.put hdN v)
theorem skip_fp (i : Nat) (U : List Nat) {oi : Oper} {d : Nat} {N : Nat} {L : List (Nat × Value)} {fuel : Nat} {listed : Array Bool} {a : Act} {w : World} (hF : Fs a N L) (hS : S w) (hi : ops[i]? = some oi) (hd : oi.dst = some d) (hdN : d < N)
    (hs : Region.noSelect ops = true) (hf : Region.free .any ops listed i = true) (hr : (Region.ready .any ops listed).contains i = true) (hU : (waitsB ops i listed U && U.contains st && !U.contains i) = true)
    (hQ : ∀ c a w, Q (.panic c) (a.put (some d) undef) w → Q (.panic c) a w)
    (hw : ∀ a', Fs a' N L → Region.wanted oi (yielded ops a'.tmps) = false)
    (h : Fs (a.put (some d) undef) N ((d, undef) :: L) → wpTill P ops Q S st fuel (listed.setIfInBounds i true) (a.put (some d) undef) w) : wpTill P ops Q S st (fuel + 1) listed a w := by
  refine wpTill_take i U (v := undef) hi hs hf hr hU (fun c a w h => by rw [hd] at h; exact hQ c a w h) (Or.inr ⟨hw a hF, rfl⟩) hS ?_
  rw [hd]
  exact h (hF.put hdN undef)
theorem call_fp (i : Nat) {oi : Oper} {d : Nat} {f : FuncId} {args : Array Value} {N : Nat} {L : List (Nat × Value)} {R : Ending → World → Prop} {fuel : Nat} {listed : Array Bool} {a : Act} {w : World} (hF : Fs a N L) (hi : ops[i]? = some oi) (hd : oi.dst = some d) (hdN : d < N)
    (hr : Region.ready .any ops listed = [i])
    (hw : ∀ a', Fs a' N L → Region.wanted oi (yielded ops a'.tmps) = true)
    (hrun : ∀ a', Fs a' N L → (execOp a'.eval oi).run P w = .ok (.enter f args) w)
    (hc : Calls P f args w R) (hout : ∀ w', ¬ R .outgrown w')
    (hpan : ∀ ch w', R (.panicked ch) w' → Q (.panic ch) a w')
    (hret : ∀ v w', R (.returned v) w' → ((listed.setIfInBounds i true).getD st true = false → S w') ∧ (Fs (a.put (some d) v) N ((d, v) :: L) → wpTill P ops Q S st fuel (listed.setIfInBounds i true) (a.put (some d) v) w')) : wpTill P ops Q S st (fuel + 1) listed a w := by
  refine wpTill_one i hr hi ?_
  intro K' hK
  rw [if_pos (hw a hF)]
  unfold Oper.wp
  rw [hrun a hF, Oper.upon_enter]
  refine hc.mono ?_
  intro e w' h
  cases e with
  | returned v =>
    obtain ⟨h1, h2⟩ := hret v w' h
    refine hK.out _ _ h1 ?_
    rw [hd]
    exact h2 (hF.put hdN v)
  | panicked ch => exact hpan ch w' h
  | outgrown => exact absurd h (hout w')
theorem one_fp (i : Nat) {oi : Oper} {d : Nat} {v : Value} {N : Nat} {L : List (Nat × Value)} {fuel : Nat} {listed : Array Bool} {a : Act} {w : World} (hF : Fs a N L) (hi : ops[i]? = some oi) (hd : oi.dst = some d) (hdN : d < N) (hst : (listed.setIfInBounds i true).getD st true = true)
    (hr : Region.ready .any ops listed = [i])
    (hw : ∀ a', Fs a' N L → Region.wanted oi (yielded ops a'.tmps) = true)
    (hrun : ∀ a', Fs a' N L → (execOp a'.eval oi).run P w = .ok (.value v) w)
    (h : Fs (a.put (some d) v) N ((d, v) :: L) → wpTill P ops Q S st fuel (listed.setIfInBounds i true) (a.put (some d) v) w) : wpTill P ops Q S st (fuel + 1) listed a w := by
  refine wpTill_one i hr hi ?_
  intro K' hK
  rw [if_pos (hw a hF)]
  unfold Oper.wp
  rw [hrun a hF, Oper.upon_value]
  refine hK.out _ _ (fun h => absurd (hst.symm.trans h) (by decide)) ?_
  rw [hd]
  exact h (hF.put hdN v)
end
end Go.Proofs.YtkjgkchdkeggoaaGreatDoor
