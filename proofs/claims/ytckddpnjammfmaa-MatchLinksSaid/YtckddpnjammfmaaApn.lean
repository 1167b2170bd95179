/-
  Rows of pairs cut and put behind rows.
-/
import Derived.Test.YtckddpnjammfmaaSmr
import Derived.WalkSpells
namespace Go.Proofs.Ytckddpnjammfmaa
open Go.RowKit
set_option maxRecDepth 20000
set_option linter.unusedVariables false
set_option linter.unusedSimpArgs false

theorem slice_from25 {w : World} {p : Option Addr} {n c : Nat} {l : List P2} (i : TypeInfo) (hi : Try.prog.info? 48 = some i) (hs : i.size = 2) (h : PS w p n c l) (k : Nat) (hk : k ≤ n) :
    ∃ p', (∀ w, (Instr.slice 25 (.slice p n c) (some (.int .i64 (k : Int))) none none).run Try.prog w = .ok (.slice p' (n - k) (c - k)) w) ∧ PS w p' (n - k) (c - k) (l.drop k) := by
  refine ⟨if c = k then p else p.map (fun x => x.add (k * 2)), fun w => ?_, ?_⟩
  · have hc : n ≤ c ∨ n = 0 := by
      rcases h.2 with h0 | ⟨b, off, _, hc, _⟩
      · exact .inr h0
      · exact .inl hc
    have hkc : k ≤ c := by omega
    simp [Instr.slice, run_underlying Try.underlying25, Instr.sliceBounds, Instr.sliceBound, asIntOf, sizeOf, typeInfo, hi, hs, hk, go_sem]
  · obtain ⟨hn, h0 | ⟨b, off, rfl, hc, hb, hat⟩⟩ := h
    · refine ⟨by simp [hn], .inl (by omega)⟩
    · by_cases hck : c = k
      · rw [if_pos hck]
        exact ⟨by simp [hn], .inl (by omega)⟩
      · rw [if_neg hck]
        have ha : Option.map (fun x : Addr => x.add (k * 2)) (some (⟨b, off, none⟩ : Addr)) = some ⟨b, off + k * 2, none⟩ := by
          simp only [Option.map_some, Option.some.injEq]
          unfold Addr.add; split <;> simp_all
        rw [ha]
        refine ⟨by simp [hn], .inr ⟨b, off + k * 2, rfl, by omega, hb, fun i p hi => ?_⟩⟩
        rw [List.getElem?_drop] at hi
        have := hat (k + i) p hi
        rwa [show off + (k + i) * 2 = off + k * 2 + i * 2 by omega] at this
theorem slice_to25 {w : World} {p : Option Addr} {n c : Nat} {l : List P2} (i : TypeInfo) (hi : Try.prog.info? 48 = some i) (hs : i.size = 2) (h : PS w p n c l) (k : Nat) (hk : k ≤ n) :
    (∀ w, (Instr.slice 25 (.slice p n c) none (some (.int .i64 (k : Int))) none).run Try.prog w = .ok (.slice p k c) w) ∧ PS w p k c (l.take k) := by
  constructor
  · intro w
    have hc : n ≤ c ∨ n = 0 := by
      rcases h.2 with h0 | ⟨b, off, _, hc, _⟩
      · exact .inr h0
      · exact .inl hc
    have hkc : k ≤ c := by omega
    simp [Instr.slice, run_underlying Try.underlying25, Instr.sliceBounds, Instr.sliceBound, asIntOf, sizeOf, typeInfo, hi, hs, hk, hkc, go_sem]
  · obtain ⟨hn, h0 | ⟨b, off, rfl, hc, hb, hat⟩⟩ := h
    · exact ⟨by simp; omega, .inl (by omega)⟩
    · refine ⟨by simp; omega, .inr ⟨b, off, rfl, by omega, hb, fun i p hi => ?_⟩⟩
      rw [List.getElem?_take] at hi
      split at hi
      · exact hat i p hi
      · cases hi
theorem run_append_none_any {P : Program} (w : World) (base : Nat) (t ty e : TypeId) (i : TypeInfo) (size : Nat) (ht : P.underlying t = some (.slice e)) (hi : P.info? e = some i)
    (v : Value) (n : Nat) (xs : List Value) (hown : w.ownsRow base e size v n xs) (c : Nat) :
    (Builtin.append_ #[t, t] ty #[v, .slice none 0 c]).run P w = .ok v w := by
  rcases hown.2 with ⟨rfl, rfl⟩ | ⟨g, cap, cur, rfl, _, _, hnc, _⟩
  · simp [Builtin.append_, run_underlying ht, sizeOf, typeInfo, hi, Builtin.lenOf, Builtin.firstCells]
  · simp [Builtin.append_, run_underlying ht, sizeOf, typeInfo, hi, Builtin.lenOf, Builtin.firstCells, hnc, storeCells]
theorem grown_same (w : World) (r : Option Nat) : w.grownBy w r := World.grownBy.refl w r
theorem ps_news {w : World} {b off m : Nat} {l : List P2} (hm : m = l.length) (hat : ∀ (i : Nat) (p : P2), l[i]? = some p → w.cell? ⟨b, off + i * 2, none⟩ = some (.int .i64 p.1) ∧ w.cell? ⟨b, off + i * 2 + 1, none⟩ = some (.int .i64 p.2)) :
    ∀ j u, (pcells l)[j]? = some u → w.cell? ((⟨b, off, none⟩ : Addr).add j) = some u := fun j u hu => by
  have hj : j < l.length * 2 := by rw [← pcells_length]; exact (List.getElem?_eq_some_iff.1 hu).1
  obtain ⟨p, hp⟩ : ∃ p, l[j / 2]? = some p := ⟨_, List.getElem?_eq_getElem (by omega)⟩
  obtain ⟨c0, c1⟩ := hat _ p hp
  have hg := pcells_get l (j / 2) p hp (j % 2) (Nat.mod_lt _ (by omega))
  rw [show j / 2 * 2 + j % 2 = j by omega, hu] at hg
  rw [addr_add']
  rcases Nat.lt_or_ge (j % 2) 1 with h1 | h1
  · have e0 : j % 2 = 0 := by omega
    rw [e0] at hg
    rw [show off + j = off + j / 2 * 2 by omega, c0]
    exact hg.symm
  · have e1 : j % 2 = 1 := by omega
    rw [e1] at hg
    rw [show off + j = off + j / 2 * 2 + 1 by omega, c1]
    exact hg.symm
theorem pcells_one (l : List P2) : ∀ u ∈ pcells l, u.oneCell' = true := fun u hu => by
  obtain ⟨p, _, h⟩ := List.mem_flatMap.1 hu
  exact onep p u h
theorem run_append_ps {P : Program} (w : World) (base : Nat) (t ty e : TypeId) (i : TypeInfo) (z : Value) (bytes : Nat) (ht : P.underlying t = some (.slice e)) (hi : P.info? e = some i) (hz : i.zero = some z)
    (hsize : i.size = 2) (hby : i.bytes = bytes) (hzs : z.cells.size = 2)
    (v : Value) (n : Nat) (xs : List Value) (hown : w.ownsRow base e 2 v n xs)
    (p : Option Addr) (m c : Nat) (l : List P2) (hin : PS w p m c l)
    (h63 : n + m ≤ maxLen) (hbytes : (n + m) * bytes ≤ 140737488355328) (hbase : base ≤ w.heap.size) :
    ∃ v' w', (Builtin.append_ #[t, t] ty #[v, .slice p m c]).run P w = .ok v' w' ∧ w'.ownsRow base e 2 v' (n + m) (xs ++ pcells l) ∧ w.grownBy w' v.ownBlock := by
  cases p with
  | none =>
    obtain ⟨hm, h0 | ⟨b, off, hp, _⟩⟩ := hin
    · subst h0
      have : l = [] := List.length_eq_zero_iff.1 hm.symm
      subst this
      exact ⟨v, w, run_append_none_any w base t ty e i 2 ht hi v n xs hown c, by simpa [pcells] using hown, grown_same w _⟩
    · simp at hp
  | some ad =>
    have hnews : ∀ j u, (pcells l)[j]? = some u → w.cell? (ad.add j) = some u := by
      obtain ⟨hm, h0 | ⟨b, off, hp, _, _, hat⟩⟩ := hin
      · have : l = [] := List.length_eq_zero_iff.1 (by omega)
        subst this
        intro j u h; simp [pcells] at h
      · obtain rfl : ad = ⟨b, off, none⟩ := by simpa using hp
        exact ps_news hm hat
    obtain ⟨v', w', h1, h2, h3, _⟩ := run_append_own (P := P) w base t ty e i z 2 bytes ht hi hz hsize hby hzs (by omega) v n xs hown ad m c (pcells l) (by rw [pcells_length, hin.1]) hnews (pcells_one l) h63 hbytes hbase
    exact ⟨v', w', h1, h2, h3⟩
theorem wpList_append_ps {P : Program} (w : World) {ops : Array Oper} {rest : List Oper} {o : Oper} {a : Act} {Q : Exit → Act → World → Prop} (hgd : o.guard = none) (s x : Operand) (t : TypeId)
    (ho : o.op = .call { callee := .builtin .append, args := #[s, x], argTypes := #[t, t] })
    (base : Nat) (e : TypeId) (i : TypeInfo) (z : Value) (bytes : Nat) (ht : P.underlying t = some (.slice e)) (hi : P.info? e = some i) (hz : i.zero = some z)
    (hsize : i.size = 2) (hby : i.bytes = bytes) (hzs : z.cells.size = 2)
    (v : Value) (n : Nat) (xs : List Value) (hs : a.eval s = v) (hown : w.ownsRow base e 2 v n xs)
    (p : Option Addr) (m c : Nat) (l : List P2) (hx : a.eval x = .slice p m c) (hin : PS w p m c l)
    (h63 : n + m ≤ maxLen) (hbytes : (n + m) * bytes ≤ 140737488355328) (hbase : base ≤ w.heap.size)
    (h : ∀ v' w', w'.ownsRow base e 2 v' (n + m) (xs ++ pcells l) → w.grownBy w' v.ownBlock → wpList P ops Q rest (a.put o.dst v') w') : wpList P ops Q (o :: rest) a w := by
  obtain ⟨v', w', hr, h2, h3⟩ := run_append_ps (P := P) w base t o.type e i z bytes ht hi hz hsize hby hzs v n xs hown p m c l hin h63 hbytes hbase
  refine wpList_plain hgd fun K hK => ?_
  unfold Oper.wp execOp
  simp only [ho, resolve, invoke, builtin, Sem.run_bind, Sem.run_pure, Result.andThen_ok, List.map_toArray, List.map_cons, List.map_nil, hs, hx, hr]
  exact hK _ _ (h v' w' h2 h3)
end Go.Proofs.Ytckddpnjammfmaa
