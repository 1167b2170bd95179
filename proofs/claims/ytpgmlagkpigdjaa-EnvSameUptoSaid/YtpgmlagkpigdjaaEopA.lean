/-
  What is found behind an open, as plain facts.
-/
import Derived.Test.YtpgmlagkpigdjaaIsw
namespace Go.Proofs.Ytpgmlagkpigdjaa
open Go.RowKit
set_option maxRecDepth 20000
set_option linter.unusedVariables false
set_option linter.unusedSimpArgs false

theorem visTo_has {l : List Bi} {b : Bi} {j : Nat} (hb : l[j]? = some b) (hl : lastI l b.k l.length = some j) : ∀ k, j < k → k ≤ l.length → b ∈ visTo l k
  | 0, h, _ => by omega
  | k + 1, h, hk => by
    by_cases hj : j = k
    · subst hj
      rw [visTo_yes hb hl]; simp
    · have := visTo_has hb hl k (by omega) (by omega)
      simp only [visTo, List.mem_append]
      exact .inl this
theorem look_in_vis {L : List Bd} {key : Ky} {y : Bd} (h : look L key = some y) : y.bi ∈ vis ((L.map (·.bi)).reverse) ∧ y.k = key := by
  have hk := (look_some h).2
  have hl := look_last key L
  rw [h] at hl
  simp only [Option.map_some] at hl
  cases hc : lastI ((L.map (·.bi)).reverse) key L.length with
  | none => rw [hc] at hl; cases hl
  | some j =>
    rw [hc] at hl
    simp only [Option.bind_some] at hl
    have hj := (lastI_some hc).1
    refine ⟨visTo_has (j := j) hl.symm ?_ _ (by simpa using hj) (by simp), hk⟩
    have : y.bi.k = key := hk
    rw [this]; simpa using hc
theorem look_append (a b : List Bd) (k : Ky) : look (a ++ b) k = (look a k).or (look b k) := by
  unfold look; rw [List.find?_append]
theorem nodup_key {V : List Bi} (h : (V.map (·.k)).Nodup) {a b : Bi} (ha : a ∈ V) (hb : b ∈ V) (hk : a.k = b.k) : a = b := by
  induction V with
  | nil => cases ha
  | cons x r ih =>
    simp only [List.map_cons, List.nodup_cons] at h
    rcases List.mem_cons.1 ha with e1 | ha'
    · rcases List.mem_cons.1 hb with e2 | hb'
      · rw [e1, e2]
      · exact absurd (show x.k ∈ r.map (·.k) from List.mem_map.2 ⟨b, hb', by rw [← e1]; exact hk.symm⟩) h.1
    · rcases List.mem_cons.1 hb with e2 | hb'
      · exact absurd (show x.k ∈ r.map (·.k) from List.mem_map.2 ⟨a, ha', by rw [← e2]; exact hk⟩) h.1
      · exact ih h.2 ha' hb'
theorem open_none {Lp La new : List Bd} {via : Int} {k : Ky} (h : new.map (·.bi) = ((vis ((Lp.map (·.bi)).reverse)).map (sv via)).reverse) (hn : look Lp k = none) : look (new ++ La) k = look La k := by
  rw [look_append]
  have : look new k = none := by
    refine List.find?_eq_none.2 fun x hx => ?_
    simp only [decide_eq_true_eq]
    intro e
    have h1 : x.bi ∈ ((vis ((Lp.map (·.bi)).reverse)).map (sv via)).reverse := by rw [← h]; exact List.mem_map.2 ⟨x, hx, rfl⟩
    obtain ⟨b, hb, hbe⟩ := List.mem_map.1 (List.mem_reverse.1 h1)
    obtain ⟨y, hy, _⟩ := look_vis Lp b hb
    have : b.k = k := by rw [← e]; show b.k = x.bi.k; rw [← hbe]; rfl
    rw [this, hn] at hy; cases hy
  rw [this]; rfl
theorem open_some {Lp La new : List Bd} {via : Int} {k : Ky} {y : Bd} (h : new.map (·.bi) = ((vis ((Lp.map (·.bi)).reverse)).map (sv via)).reverse) (hn : look Lp k = some y) : ∃ x, look (new ++ La) k = some x ∧ x.bi = sv via y.bi := by
  rw [look_append]
  obtain ⟨hv, hk⟩ := look_in_vis hn
  have hmem : sv via y.bi ∈ new.map (·.bi) := by rw [h]; exact List.mem_reverse.2 (List.mem_map.2 ⟨y.bi, hv, rfl⟩)
  obtain ⟨x, hx, hxe⟩ := List.mem_map.1 hmem
  have hxk : x.k = k := by show x.bi.k = k; rw [hxe]; exact hk
  cases hc : look new k with
  | none =>
    have := List.find?_eq_none.1 hc x hx
    simp [hxk] at this
  | some z =>
    obtain ⟨hz, hzk⟩ := look_some hc
    refine ⟨z, rfl, ?_⟩
    have h1 : z.bi ∈ ((vis ((Lp.map (·.bi)).reverse)).map (sv via)).reverse := by rw [← h]; exact List.mem_map.2 ⟨z, hz, rfl⟩
    obtain ⟨b, hb, hbe⟩ := List.mem_map.1 (List.mem_reverse.1 h1)
    have hbk : b.k = y.bi.k := by
      have e1 : b.k = z.bi.k := by rw [← hbe]; rfl
      rw [e1]; show z.k = y.k; rw [hzk, hk]
    rw [← hbe, nodup_key (visTo_nodup _ _) hb hv hbk]
theorem RepL.append {w : World} : ∀ {a : List Bn} {s : List Bi} {b : List Bn} {t : List Bi}, RepL w a s → RepL w b t → RepL w (a ++ b) (s ++ t)
  | [], [], _, _, _, h => by simpa using h
  | x :: r, c :: s, _, _, hr, h => by
    simp only [RepL] at hr
    simp only [List.cons_append, RepL]
    exact ⟨hr.1, RepL.append hr.2 h⟩
  | [], _ :: _, _, _, hr, _ => by simp only [RepL] at hr
  | _ :: _, [], _, _, hr, _ => by simp only [RepL] at hr
theorem RepL.setV {w : World} (via : Int) : ∀ {a : List Bn} {s : List Bi}, RepL w a s → RepL w (a.map (setV via)) (s.map (sv via))
  | [], [], _ => by simp [RepL]
  | x :: r, c :: s, hr => by
    simp only [RepL] at hr
    simp only [List.map_cons, RepL]
    refine ⟨?_, RepL.setV via hr.2⟩
    obtain ⟨h1, h2, h3, h4, h5⟩ := (repB_iff _ _ _).1 hr.1
    refine (repB_iff _ _ _).2 ⟨?_, ?_, ?_, ?_, ?_⟩
    · rw [setV_h]; exact h1
    · rw [setV_h]; exact h2
    · rw [setV_h]; rfl
    · rw [setV_ps]; exact h4
    · rw [setV_qs]; exact h5
  | [], _ :: _, hr => by simp only [RepL] at hr
  | _ :: _, [], hr => by simp only [RepL] at hr
theorem sizes_append (a b : List Bn) : sizes (a ++ b) = sizes a + sizes b := by
  induction a with
  | nil => simp [sizes]
  | cons x r ih => simp only [List.cons_append, sizes, ih]; omega
theorem sizes_setV (via : Int) (l : List Bn) : sizes (l.map (setV via)) = sizes l := by
  induction l with
  | nil => rfl
  | cons x r ih =>
    simp only [List.map_cons, sizes, ih]
    rw [Bn.size_eq, Bn.size_eq x, setV_ps, setV_qs]
theorem sizes_visToN (l : List Bn) : ∀ k, sizes (visToN l k) ≤ sizes (l.take k)
  | 0 => by simp [visToN, sizes]
  | k + 1 => by
    have ih := sizes_visToN l k
    rw [List.take_add_one, sizes_append]
    simp only [visToN, sizes_append]
    cases hx : l[k]? with
    | none => simp only [sizes]; omega
    | some x =>
      simp only [Option.toList_some]
      split
      · omega
      · simp only [sizes]; omega
theorem sizes_openN (l parts : List Bn) (via : Int) : sizes (openN l parts via) ≤ sizes l + sizes parts := by
  unfold openN
  rw [sizes_append, sizes_setV]
  have := sizes_visToN parts parts.length
  rw [List.take_length] at this
  unfold visN; omega
theorem lies_openN {w : World} {l parts : List Bn} {via : Int} (h1 : AllLie w l) (h2 : AllLie w parts) : AllLie w (openN l parts via) := by
  refine (allLie_iff _ _).2 fun x hx => ?_
  rcases List.mem_append.1 hx with hx | hx
  · exact (allLie_iff _ _).1 h1 x hx
  · obtain ⟨y, hy, rfl⟩ := List.mem_map.1 hx
    have := (lies_iff _ _).1 ((allLie_iff _ _).1 h2 y (visToN_mem _ _ _ hy))
    refine (lies_iff _ _).2 ?_
    rw [setV_ps, setV_qs, setV_h]
    exact this
/-- Since the environment before an open: the links of the open alone. -/
theorem open_since {new La : List Bd} (hd : (new ++ La).Pairwise (fun a b => b.lk < a.lk)) : ∀ i b, i ≤ new.length → (new ++ La)[i]? = some b → decide (i = new.length) = decide (some b.lk = tb La) := by
  intro i b hi hb
  obtain ⟨h1, h2, h3⟩ := List.pairwise_append.1 hd
  by_cases hc : i = new.length
  · subst hc
    rw [List.getElem?_append_right (Nat.le_refl _), Nat.sub_self] at hb
    cases La with
    | nil => simp at hb
    | cons x r =>
      simp only [List.getElem?_cons_zero, Option.some.injEq] at hb
      subst hb; simp [tb]
  · rw [List.getElem?_append_left (by omega)] at hb
    have hm := List.mem_of_getElem? hb
    cases La with
    | nil => simp [tb, hc]
    | cons x r =>
      have := h3 b hm x (by simp)
      have hne : ¬ b.lk = x.lk := by omega
      simp [tb, hc, hne]
end Go.Proofs.Ytpgmlagkpigdjaa
