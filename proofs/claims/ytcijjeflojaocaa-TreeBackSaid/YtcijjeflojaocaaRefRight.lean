/-
  The document's Right: the walk.
-/
import Derived.Test.YtcijjeflojaocaaRightT
import Derived.Test.YtcijjeflojaocaaBranchC
namespace Go.Proofs.Ytcijjeflojaocaa
open Go.RowKit
set_option linter.unusedVariables false
set_option linter.unusedSimpArgs false

theorem look_mem {k : Nat} {v : Value} {L : List (Nat × Value)} (h : L.lookup k = some v) : (k, v) ∈ L := by
  induction L with
  | nil => simp at h
  | cons p r ih =>
    obtain ⟨j, x⟩ := p
    by_cases hkj : k = j
    · subst hkj
      simp only [List.lookup, beq_self_eq_true] at h
      rw [← Option.some.inj h]
      exact List.mem_cons_self ..
    · rw [look_skip hkj] at h
      exact List.mem_cons_of_mem _ (ih h)
theorem look_map (g : Nat → Value) (l : List Nat) (k : Nat) (h : k ∈ l) : (l.map fun i => (i, g i)).lookup k = some (g k) := by
  induction l with
  | nil => cases h
  | cons j r ih =>
    by_cases hkj : k = j
    · subst hkj; simp
    · rw [List.map_cons, look_skip hkj]
      rcases List.mem_cons.1 h with h | h
      · exact absurd h hkj
      · exact ih h
theorem look_append (k : Nat) (A B : List (Nat × Value)) : (A ++ B).lookup k = match A.lookup k with | some v => some v | none => B.lookup k := by
  induction A with
  | nil => rfl
  | cons p r ih =>
    obtain ⟨j, x⟩ := p
    by_cases hkj : k = j
    · subst hkj; simp
    · rw [List.cons_append, look_skip hkj, look_skip hkj, ih]
theorem ofFn93 (f : Nat → Value) : (Array.ofFn (n := 93) fun i => f i.1) = #[f 0, f 1, f 2, f 3, f 4, f 5, f 6, f 7, f 8, f 9, f 10, f 11, f 12, f 13, f 14, f 15, f 16, f 17, f 18, f 19, f 20, f 21, f 22, f 23, f 24, f 25, f 26, f 27, f 28, f 29, f 30, f 31, f 32, f 33, f 34, f 35, f 36, f 37, f 38, f 39, f 40, f 41, f 42, f 43, f 44, f 45, f 46, f 47, f 48, f 49, f 50, f 51, f 52, f 53, f 54, f 55, f 56, f 57, f 58, f 59, f 60, f 61, f 62, f 63, f 64, f 65, f 66, f 67, f 68, f 69, f 70, f 71, f 72, f 73, f 74, f 75, f 76, f 77, f 78, f 79, f 80, f 81, f 82, f 83, f 84, f 85, f 86, f 87, f 88, f 89, f 90, f 91, f 92] := by kernel_rfl
set_option maxRecDepth 20000 in
theorem form93 {a a' : Act} {bb kb i : Nat} {okn : Bool} (hF : Fs a' 93 [(1, .pointer (some ⟨bb, 0, none⟩)), (3, .bool okn), (5, .int .i64 (i : Int)), (6, .pointer (some ⟨kb, 0, none⟩))])
    (hA : ∀ k, k ≠ 1 → k ≠ 3 → k ≠ 5 → k ≠ 6 → k < 57 ∨ 92 ≤ k → a'.tmps.getD k undef = a.tmps.getD k undef) : ∃ u : Nat → Value, a' = { tmps := #[a.tmps.getD 0 undef, .pointer (some ⟨bb, 0, none⟩), a.tmps.getD 2 undef, .bool okn, a.tmps.getD 4 undef, .int .i64 (i : Int), .pointer (some ⟨kb, 0, none⟩), a.tmps.getD 7 undef, a.tmps.getD 8 undef, a.tmps.getD 9 undef, a.tmps.getD 10 undef, a.tmps.getD 11 undef, a.tmps.getD 12 undef, a.tmps.getD 13 undef, a.tmps.getD 14 undef, a.tmps.getD 15 undef, a.tmps.getD 16 undef, a.tmps.getD 17 undef, a.tmps.getD 18 undef, a.tmps.getD 19 undef, a.tmps.getD 20 undef, a.tmps.getD 21 undef, a.tmps.getD 22 undef, a.tmps.getD 23 undef, a.tmps.getD 24 undef, a.tmps.getD 25 undef, a.tmps.getD 26 undef, a.tmps.getD 27 undef, a.tmps.getD 28 undef, a.tmps.getD 29 undef, a.tmps.getD 30 undef, a.tmps.getD 31 undef, a.tmps.getD 32 undef, a.tmps.getD 33 undef, a.tmps.getD 34 undef, a.tmps.getD 35 undef, a.tmps.getD 36 undef, a.tmps.getD 37 undef, a.tmps.getD 38 undef, a.tmps.getD 39 undef, a.tmps.getD 40 undef, a.tmps.getD 41 undef, a.tmps.getD 42 undef, a.tmps.getD 43 undef, a.tmps.getD 44 undef, a.tmps.getD 45 undef, a.tmps.getD 46 undef, a.tmps.getD 47 undef, a.tmps.getD 48 undef, a.tmps.getD 49 undef, a.tmps.getD 50 undef, a.tmps.getD 51 undef, a.tmps.getD 52 undef, a.tmps.getD 53 undef, a.tmps.getD 54 undef, a.tmps.getD 55 undef, a.tmps.getD 56 undef, u 57, u 58, u 59, u 60, u 61, u 62, u 63, u 64, u 65, u 66, u 67, u 68, u 69, u 70, u 71, u 72, u 73, u 74, u 75, u 76, u 77, u 78, u 79, u 80, u 81, u 82, u 83, u 84, u 85, u 86, u 87, u 88, u 89, u 90, u 91, a.tmps.getD 92 undef], defers := [] } := by
  refine ⟨fun i => a'.tmps.getD i undef, ?_⟩
  have e : a'.tmps = #[a'.tmps.getD 0 undef, a'.tmps.getD 1 undef, a'.tmps.getD 2 undef, a'.tmps.getD 3 undef, a'.tmps.getD 4 undef, a'.tmps.getD 5 undef, a'.tmps.getD 6 undef, a'.tmps.getD 7 undef, a'.tmps.getD 8 undef, a'.tmps.getD 9 undef, a'.tmps.getD 10 undef, a'.tmps.getD 11 undef, a'.tmps.getD 12 undef, a'.tmps.getD 13 undef, a'.tmps.getD 14 undef, a'.tmps.getD 15 undef, a'.tmps.getD 16 undef, a'.tmps.getD 17 undef, a'.tmps.getD 18 undef, a'.tmps.getD 19 undef, a'.tmps.getD 20 undef, a'.tmps.getD 21 undef, a'.tmps.getD 22 undef, a'.tmps.getD 23 undef, a'.tmps.getD 24 undef, a'.tmps.getD 25 undef, a'.tmps.getD 26 undef, a'.tmps.getD 27 undef, a'.tmps.getD 28 undef, a'.tmps.getD 29 undef, a'.tmps.getD 30 undef, a'.tmps.getD 31 undef, a'.tmps.getD 32 undef, a'.tmps.getD 33 undef, a'.tmps.getD 34 undef, a'.tmps.getD 35 undef, a'.tmps.getD 36 undef, a'.tmps.getD 37 undef, a'.tmps.getD 38 undef, a'.tmps.getD 39 undef, a'.tmps.getD 40 undef, a'.tmps.getD 41 undef, a'.tmps.getD 42 undef, a'.tmps.getD 43 undef, a'.tmps.getD 44 undef, a'.tmps.getD 45 undef, a'.tmps.getD 46 undef, a'.tmps.getD 47 undef, a'.tmps.getD 48 undef, a'.tmps.getD 49 undef, a'.tmps.getD 50 undef, a'.tmps.getD 51 undef, a'.tmps.getD 52 undef, a'.tmps.getD 53 undef, a'.tmps.getD 54 undef, a'.tmps.getD 55 undef, a'.tmps.getD 56 undef, a'.tmps.getD 57 undef, a'.tmps.getD 58 undef, a'.tmps.getD 59 undef, a'.tmps.getD 60 undef, a'.tmps.getD 61 undef, a'.tmps.getD 62 undef, a'.tmps.getD 63 undef, a'.tmps.getD 64 undef, a'.tmps.getD 65 undef, a'.tmps.getD 66 undef, a'.tmps.getD 67 undef, a'.tmps.getD 68 undef, a'.tmps.getD 69 undef, a'.tmps.getD 70 undef, a'.tmps.getD 71 undef, a'.tmps.getD 72 undef, a'.tmps.getD 73 undef, a'.tmps.getD 74 undef, a'.tmps.getD 75 undef, a'.tmps.getD 76 undef, a'.tmps.getD 77 undef, a'.tmps.getD 78 undef, a'.tmps.getD 79 undef, a'.tmps.getD 80 undef, a'.tmps.getD 81 undef, a'.tmps.getD 82 undef, a'.tmps.getD 83 undef, a'.tmps.getD 84 undef, a'.tmps.getD 85 undef, a'.tmps.getD 86 undef, a'.tmps.getD 87 undef, a'.tmps.getD 88 undef, a'.tmps.getD 89 undef, a'.tmps.getD 90 undef, a'.tmps.getD 91 undef, a'.tmps.getD 92 undef] := by
    rw [← ofFn93 (fun i => a'.tmps.getD i undef)]
    refine Array.ext (by simp [hF.1]) fun i hi1 hi2 => ?_
    simp [hi1]
  have h1 : a'.tmps.getD 1 undef = _ := hF.get 1 rfl
  have h3 : a'.tmps.getD 3 undef = _ := hF.get 3 rfl
  have h5 : a'.tmps.getD 5 undef = _ := hF.get 5 rfl
  have h6 : a'.tmps.getD 6 undef = _ := hF.get 6 rfl
  have hd := hF.2.1
  clear hF
  obtain ⟨t, d⟩ := a'
  simp only at hd e h1 h3 h5 h6 hA
  subst hd
  rw [h1, h3, h5, h6, hA 0 (by omega) (by omega) (by omega) (by omega) (by omega), hA 2 (by omega) (by omega) (by omega) (by omega) (by omega), hA 4 (by omega) (by omega) (by omega) (by omega) (by omega), hA 7 (by omega) (by omega) (by omega) (by omega) (by omega), hA 8 (by omega) (by omega) (by omega) (by omega) (by omega), hA 9 (by omega) (by omega) (by omega) (by omega) (by omega), hA 10 (by omega) (by omega) (by omega) (by omega) (by omega), hA 11 (by omega) (by omega) (by omega) (by omega) (by omega), hA 12 (by omega) (by omega) (by omega) (by omega) (by omega), hA 13 (by omega) (by omega) (by omega) (by omega) (by omega), hA 14 (by omega) (by omega) (by omega) (by omega) (by omega), hA 15 (by omega) (by omega) (by omega) (by omega) (by omega), hA 16 (by omega) (by omega) (by omega) (by omega) (by omega), hA 17 (by omega) (by omega) (by omega) (by omega) (by omega), hA 18 (by omega) (by omega) (by omega) (by omega) (by omega), hA 19 (by omega) (by omega) (by omega) (by omega) (by omega), hA 20 (by omega) (by omega) (by omega) (by omega) (by omega), hA 21 (by omega) (by omega) (by omega) (by omega) (by omega), hA 22 (by omega) (by omega) (by omega) (by omega) (by omega), hA 23 (by omega) (by omega) (by omega) (by omega) (by omega), hA 24 (by omega) (by omega) (by omega) (by omega) (by omega), hA 25 (by omega) (by omega) (by omega) (by omega) (by omega), hA 26 (by omega) (by omega) (by omega) (by omega) (by omega), hA 27 (by omega) (by omega) (by omega) (by omega) (by omega), hA 28 (by omega) (by omega) (by omega) (by omega) (by omega), hA 29 (by omega) (by omega) (by omega) (by omega) (by omega), hA 30 (by omega) (by omega) (by omega) (by omega) (by omega), hA 31 (by omega) (by omega) (by omega) (by omega) (by omega), hA 32 (by omega) (by omega) (by omega) (by omega) (by omega), hA 33 (by omega) (by omega) (by omega) (by omega) (by omega), hA 34 (by omega) (by omega) (by omega) (by omega) (by omega), hA 35 (by omega) (by omega) (by omega) (by omega) (by omega), hA 36 (by omega) (by omega) (by omega) (by omega) (by omega), hA 37 (by omega) (by omega) (by omega) (by omega) (by omega), hA 38 (by omega) (by omega) (by omega) (by omega) (by omega), hA 39 (by omega) (by omega) (by omega) (by omega) (by omega), hA 40 (by omega) (by omega) (by omega) (by omega) (by omega), hA 41 (by omega) (by omega) (by omega) (by omega) (by omega), hA 42 (by omega) (by omega) (by omega) (by omega) (by omega), hA 43 (by omega) (by omega) (by omega) (by omega) (by omega), hA 44 (by omega) (by omega) (by omega) (by omega) (by omega), hA 45 (by omega) (by omega) (by omega) (by omega) (by omega), hA 46 (by omega) (by omega) (by omega) (by omega) (by omega), hA 47 (by omega) (by omega) (by omega) (by omega) (by omega), hA 48 (by omega) (by omega) (by omega) (by omega) (by omega), hA 49 (by omega) (by omega) (by omega) (by omega) (by omega), hA 50 (by omega) (by omega) (by omega) (by omega) (by omega), hA 51 (by omega) (by omega) (by omega) (by omega) (by omega), hA 52 (by omega) (by omega) (by omega) (by omega) (by omega), hA 53 (by omega) (by omega) (by omega) (by omega) (by omega), hA 54 (by omega) (by omega) (by omega) (by omega) (by omega), hA 55 (by omega) (by omega) (by omega) (by omega) (by omega), hA 56 (by omega) (by omega) (by omega) (by omega) (by omega), hA 92 (by omega) (by omega) (by omega) (by omega) (by omega)] at e
  exact congrArg (fun t => ({ tmps := t, defers := [] } : Act)) e
theorem right10_any {Q : Exit → Act → World → Prop} {a : Act} {w : World} {bb kb b1 off kn kc i : Nat} {f t xk xm xf xt : Int} {xnp : Option Addr} {xnn xnc : Nat} {xkp : Option Addr} {xkn xkc : Nat} {pt : Int} {ok rv : Bool}
    (h : R10 w bb kb b1 off kn kc i f t xk xm xf xt xnp xnn xnc xkp xkn xkc pt ok rv)
    (hF : Fs a 93 [(1, .pointer (some ⟨bb, 0, none⟩)), (3, .bool ok), (5, .int .i64 (i : Int)), (6, .pointer (some ⟨kb, 0, none⟩))])
    (hQ : ∀ c (a a' : Act) w, a'.defers = a.defers → Q (.panic c) a w → Q (.panic c) a' w)
    (H : ∀ a' w', (∃ u : Nat → Value, a' = { tmps := #[a.tmps.getD 0 undef, .pointer (some ⟨bb, 0, none⟩), a.tmps.getD 2 undef, .bool (kidOk ok rv f t xf xt i pt), a.tmps.getD 4 undef, .int .i64 (i : Int), .pointer (some ⟨kb, 0, none⟩), a.tmps.getD 7 undef, a.tmps.getD 8 undef, a.tmps.getD 9 undef, a.tmps.getD 10 undef, a.tmps.getD 11 undef, a.tmps.getD 12 undef, a.tmps.getD 13 undef, a.tmps.getD 14 undef, a.tmps.getD 15 undef, a.tmps.getD 16 undef, a.tmps.getD 17 undef, a.tmps.getD 18 undef, a.tmps.getD 19 undef, a.tmps.getD 20 undef, a.tmps.getD 21 undef, a.tmps.getD 22 undef, a.tmps.getD 23 undef, a.tmps.getD 24 undef, a.tmps.getD 25 undef, a.tmps.getD 26 undef, a.tmps.getD 27 undef, a.tmps.getD 28 undef, a.tmps.getD 29 undef, a.tmps.getD 30 undef, a.tmps.getD 31 undef, a.tmps.getD 32 undef, a.tmps.getD 33 undef, a.tmps.getD 34 undef, a.tmps.getD 35 undef, a.tmps.getD 36 undef, a.tmps.getD 37 undef, a.tmps.getD 38 undef, a.tmps.getD 39 undef, a.tmps.getD 40 undef, a.tmps.getD 41 undef, a.tmps.getD 42 undef, a.tmps.getD 43 undef, a.tmps.getD 44 undef, a.tmps.getD 45 undef, a.tmps.getD 46 undef, a.tmps.getD 47 undef, a.tmps.getD 48 undef, a.tmps.getD 49 undef, a.tmps.getD 50 undef, a.tmps.getD 51 undef, a.tmps.getD 52 undef, a.tmps.getD 53 undef, a.tmps.getD 54 undef, a.tmps.getD 55 undef, a.tmps.getD 56 undef, u 57, u 58, u 59, u 60, u 61, u 62, u 63, u 64, u 65, u 66, u 67, u 68, u 69, u 70, u 71, u 72, u 73, u 74, u 75, u 76, u 77, u 78, u 79, u 80, u 81, u 82, u 83, u 84, u 85, u 86, u 87, u 88, u 89, u 90, u 91, a.tmps.getD 92 undef], defers := [] }) → Below w.heap.size w w' → Q .normal a' w') :
    (Code.region 10 opsR10 true).wp Try.prog Q a w := by
  obtain ⟨Lx, hLx⟩ : ∃ Lx, Lx = ((List.range 93).filter fun k => decide (k < 57) || decide (92 ≤ k)).map fun k => (k, a.tmps.getD k undef) := ⟨_, rfl⟩
  have hl1 : ∀ k v, Lx.lookup k = some v → (k < 57 ∨ 92 ≤ k) ∧ v = a.tmps.getD k undef := by
    intro k v hk
    have hm := look_mem hk
    rw [hLx, List.mem_map] at hm
    obtain ⟨j, hj, he⟩ := hm
    injection he with h1 h2
    subst h1
    have := (List.mem_filter.1 hj).2
    simp only [Bool.or_eq_true, decide_eq_true_eq] at this
    exact ⟨this, h2.symm⟩
  have hl2 : ∀ k, k < 93 → k < 57 ∨ 92 ≤ k → Lx.lookup k = some (a.tmps.getD k undef) := by
    intro k hk hr
    rw [hLx]
    exact look_map _ _ k (List.mem_filter.2 ⟨List.mem_range.2 hk, by simp; omega⟩)
  have hF2 : Fs a 93 ([(1, .pointer (some ⟨bb, 0, none⟩)), (3, .bool ok), (5, .int .i64 (i : Int)), (6, .pointer (some ⟨kb, 0, none⟩))] ++ Lx) := by
    refine ⟨hF.1, hF.2.1, fun k v hk => ?_⟩
    rw [look_append] at hk
    cases he : List.lookup k [(1, Value.pointer (some ⟨bb, 0, none⟩)), (3, .bool ok), (5, .int .i64 (i : Int)), (6, .pointer (some ⟨kb, 0, none⟩))] with
    | some x => rw [he] at hk; rw [← Option.some.inj hk]; exact hF.2.2 k x he
    | none => rw [he] at hk; exact (hl1 k v hk).2.symm
  have H2 : ∀ a' w', Fs a' 93 [(1, .pointer (some ⟨bb, 0, none⟩)), (3, .bool (kidOk ok rv f t xf xt i pt)), (5, .int .i64 (i : Int)), (6, .pointer (some ⟨kb, 0, none⟩))] → (∀ k v, k ≠ 1 → k ≠ 3 → k ≠ 5 → k ≠ 6 → Lx.lookup k = some v → a'.eval (.tmp k) = v) → Below w.heap.size w w' → Q .normal a' w' := fun a' w' h1 h2 h3 => by
    refine H a' w' (form93 h1 fun k k1 k3 k5 k6 hk => ?_) h3
    rcases Nat.lt_or_ge k 93 with hk9 | hk9
    · exact h2 k _ k1 k3 k5 k6 (hl2 k hk9 hk)
    · rw [Array.getD_eq_getD_getElem?, Array.getD_eq_getD_getElem?, Array.getElem?_eq_none (by rw [h1.1]; exact hk9), Array.getElem?_eq_none (by rw [hF.1]; exact hk9)]
  have hL3 := fun k v hk => (hl1 k v hk).1
  clear H hLx hl1 hl2 hF
  cases ok
  · exact right10_0 h hF2 hL3 hQ H2
  · cases rv
    · exact right10_1 h rfl hF2 hL3 hQ H2
    · by_cases h1 : f ≤ xf
      · by_cases h2 : xt ≤ t
        · cases i with
          | zero => exact right10_4 h rfl h1 h2 rfl hF2 hL3 hQ H2
          | succ i1 =>
            by_cases h3 : pt ≤ xf
            · exact right10_6 h rfl h1 h2 h3 i1 rfl hF2 hL3 hQ H2
            · exact right10_5 h rfl h1 h2 h3 i1 rfl hF2 hL3 hQ H2
        · exact right10_3 h rfl h1 h2 hF2 hL3 hQ H2
      · exact right10_2 h rfl h1 hF2 hL3 hQ H2

/-- What stands ahead of kid k: where the one ahead of it ends. -/
def prevT (ks : List Br) : Nat → Option Int
  | 0 => none
  | k + 1 => ks[k]?.map fun b => b.h.t
theorem right2_step (ks : List Br) (f t : Int) (k : Nat) (h : k < ks.length) (pt : Int) (hp : ∀ i, k = i + 1 → ∃ b, ks[i]? = some b ∧ b.h.t = pt) (q ok : Bool)
    (hq : q = (ok && rights2 f t (prevT ks k) (ks.drop k))) : q = (kidOk ok ks[k].right2 f t ks[k].h.f ks[k].h.t k pt && rights2 f t (prevT ks (k + 1)) (ks.drop (k + 1))) := by
  rw [List.drop_eq_getElem_cons h] at hq
  simp only [rights2] at hq
  rw [hq]
  have e : prevT ks (k + 1) = some ks[k].h.t := by simp [prevT, h]
  rw [e]
  unfold kidOk
  cases k with
  | zero =>
    generalize rights2 f t (some ks[0].h.t) (List.drop (0 + 1) ks) = r
    generalize ks[0] = x
    simp [prevT, Bool.and_assoc]
  | succ i =>
    obtain ⟨b, hb, rfl⟩ := hp i rfl
    generalize rights2 f t (some ks[i + 1].h.t) (List.drop (i + 1 + 1) ks) = r
    generalize ks[i + 1] = x
    simp [prevT, hb, Bool.and_assoc]

set_option maxHeartbeats 64000000 in
set_option maxRecDepth 20000 in
theorem refRight_any (b : Br) : ∀ (w : World), b.Lies w → b.Fits → b.size ≤ 1000 → Calls Try.prog 27 #[b.h.val] w fun e w' => e = .returned (.bool b.right2) ∧ Below w.heap.size w w' := by
  induction b using Br.ind with
  | hP h ks ih =>
    intro w hl hfit hsz
    obtain ⟨w0, e0, c0, l0, b0, s0⟩ := boxed w _ hl
    obtain ⟨hnames, hkids, hall⟩ := (lies_iff _ _).1 l0
    simp only [Br.Fits, fitsAll_iff] at hfit
    simp only [Br.h, Br.ks, Br.size] at e0 c0 hnames hkids hall hsz ⊢
    obtain ⟨hk, hm, hf, ht, np, nn, nc, ns, kp, kn, kc⟩ := h
    obtain ⟨hfit1, hfit2⟩ := hfit
    have hkn : kn = ks.length := hkids.1
    subst hkn
    have hnn : nn = ns.length := hnames.1
    have hlen := sizes_len ks
    have C0 := Lib.hid (fun W (hW : Below w0.heap.size w0 W) => (c0.step (by omega) hW).box)
    have hcb := c0.box
    obtain ⟨a0, a1, a2, a3, a4, a5⟩ := hcb
    simp only at a2 a3 hfit1
    have HR : Hid ((Br.mk ⟨hk, hm, hf, ht, np, nn, nc, ns, kp, ks.length, kc⟩ ks).right2 = ((decide (0 ≤ hf) && decide (hf ≤ ht)) && (ns.all (fun x => decide (hf ≤ x) && decide (x < ht)) && rights2 hf ht none ks))) := Lib.hid (by simp only [Br.right2])
    have HNM := Lib.hid hnames
    have HK := Lib.hid hkids
    have HL := Lib.hid hall
    have HI := Lib.hid ih
    have HF2 := Lib.hid hfit2
    have HNN := Lib.hid hnn
    have B0 := Lib.hid b0
    have S0 := Lib.hid s0
    have hnb : nn ≤ 17592186044416 := by omega
    generalize (Br.mk ⟨hk, hm, hf, ht, np, nn, nc, ns, kp, ks.length, kc⟩ ks).right2 = q at *
    clear hnames hkids hall ih hfit2 hl hnn hfit1 c0 l0 b0 s0
    obtain ⟨okA, hokA⟩ : ∃ okA, okA = (decide (0 ≤ hf) && decide (hf ≤ ht)) := ⟨_, rfl⟩
    rw [← hokA] at HR
    have HOK := Lib.hid hokA
    clear hokA
    by_cases h1 : hf < 0
    · have hok : okA = false := by rw [HOK.out]; simp; intro h; omega
      subst hok
      go_enter Try.func27, Try.ntmps27
      go_wp2_with fail
      rw [← e0]
      clear e0
      go_loopw [4, 3] (fun iv okv wr => ∃ (i : Nat) (okb : Bool), i ≤ nn ∧ iv = .int .i64 i ∧ okv = .bool okb ∧ Hid (q = (okb && ((ns.drop i).all (fun x => decide (hf ≤ x) && decide (x < ht)) && rights2 hf ht none ks))) ∧ Below w0.heap.size w0 wr) (fun iv _ _ => nn - (intOf iv).toNat)
      case atStart => exact ⟨0, false, by omega, rfl, rfl, HR, Below.refl _ _⟩
      case round =>
        obtain ⟨i, okb, hi, rfl, rfl, HQ, hbe1⟩ := hrel
        have hz1 := hbe1.size
        obtain ⟨a0, a1, a2, a3, a4, a5⟩ := C0.out _ hbe1
        try simp only at a2 a3 a4 a5
        have HBE1 := Lib.hid hbe1
        clear hbe1
        by_cases hlt : i < nn
        · obtain ⟨b1, off, rfl, hc1, hb1, hatn⟩ := HNM.out.2.resolve_left (by omega)
          have hil : i < ns.length := by rw [← HNN.out]; exact hlt
          have c0 : wr.cell? ⟨b1, off + i, none⟩ = some (.int .i64 ns[i]) := (hatn.step hb1 HBE1.out) i hil
          have hr1 : (0 : Int) ≤ (i : Int) := by omega
          have hr2 : (i : Int) < (nn : Int) := by omega
          have HD : Hid (q = (okb && ((decide (hf ≤ ns[i]) && decide (ns[i] < ht)) && (ns.drop (i + 1)).all (fun x => decide (hf ≤ x) && decide (x < ht)) && rights2 hf ht none ks))) := Lib.hid (by
            rw [HQ.out, List.drop_eq_getElem_cons hil, List.all_cons])
          clear hatn
          generalize ns[i] = x at *
          cases okb
          · have HD2 : Hid (q = (false && ((ns.drop (i + 1)).all (fun x => decide (hf ≤ x) && decide (x < ht)) && rights2 hf ht none ks))) := Lib.hid (by rw [HD.out]; simp)
            go_wp2_with fail
            go_quiet (fail)
            go_wp2_with fail
            go_roundw
            case rel => exact ⟨i + 1, false, by omega, by go_num, (by first | rfl | simp_all), HD2, below_drewN HBE1.out _⟩
            case measure => simp [intOf]; omega
          · by_cases hx1 : hf ≤ x
            · by_cases hx2 : x < ht
              · have HD2 : Hid (q = (true && ((ns.drop (i + 1)).all (fun x => decide (hf ≤ x) && decide (x < ht)) && rights2 hf ht none ks))) := Lib.hid (by rw [HD.out]; simp [hx1, hx2])
                first
                  | exact absurd (by omega : hf ≤ ht) h2
                  | (go_wp2_with fail
                     go_quiet (fail)
                     go_wp2_with fail
                     go_roundw
                     case rel => exact ⟨i + 1, true, by omega, by go_num, rfl, HD2, below_drewN HBE1.out _⟩
                     case measure => simp [intOf]; omega)
              · have HD2 : Hid (q = (false && ((ns.drop (i + 1)).all (fun x => decide (hf ≤ x) && decide (x < ht)) && rights2 hf ht none ks))) := Lib.hid (by rw [HD.out]; simp [hx2])
                have hdx := decide_eq_false hx2
                go_wp2_with fail
                go_quiet (fail)
                go_wp2_with fail
                go_roundw
                case rel => exact ⟨i + 1, false, by omega, by go_num, (by first | rfl | simp_all), HD2, below_drewN HBE1.out _⟩
                case measure => simp [intOf]; omega
            · have HD2 : Hid (q = (false && ((ns.drop (i + 1)).all (fun x => decide (hf ≤ x) && decide (x < ht)) && rights2 hf ht none ks))) := Lib.hid (by rw [HD.out]; simp [hx1])
              have hdx := decide_eq_false hx1
              go_wp2_with fail
              go_quiet (fail)
              go_wp2_with fail
              go_roundw
              case rel => exact ⟨i + 1, false, by omega, by go_num, (by first | rfl | simp_all), HD2, below_drewN HBE1.out _⟩
              case measure => simp [intOf]; omega
        · have HR2 : Hid (q = (okb && rights2 hf ht none ks)) := Lib.hid (by
            rw [HQ.out, List.drop_eq_nil_of_le (by rw [← HNN.out]; omega)]; simp)
          go_wp2_with fail
          go_loopw [5, 3] (fun iv okv wr => ∃ (k : Nat) (okb : Bool), k ≤ ks.length ∧ iv = .int .i64 k ∧ okv = .bool okb ∧ Hid (q = (okb && rights2 hf ht (prevT ks k) (ks.drop k))) ∧ Below w0.heap.size w0 wr) (fun iv _ _ => ks.length - (intOf iv).toNat)
          case atStart => exact ⟨0, okb, by omega, rfl, rfl, Lib.hid (by rw [HR2.out]; rfl), HBE1.out⟩
          case round =>
            obtain ⟨k, okb, hk0, rfl, rfl, HQ2, hbe⟩ := hrel
            obtain ⟨b0, b1', b2, b3, b4, b5⟩ := C0.out _ hbe
            try simp only at b2 b3 b4 b5
            have hz := hbe.size
            by_cases hlt2 : k < ks.length
            · obtain ⟨b1, off, rfl, hcap, hb1, hkat⟩ := HK.out.2.resolve_left (by omega)
              obtain ⟨c0, c1, c2, c3, c4, c5⟩ := (hkat k hlt2).step hb1 hbe
              have hmem := List.getElem_mem hlt2
              have hxs : ks[k].size ≤ 1000 := by have := size_le_sizes hmem; omega
              obtain ⟨pt, hpt⟩ : ∃ pt : Int, ∀ i, k = i + 1 → ∃ b, ks[i]? = some b ∧ b.h.t = pt := by
                cases k with
                | zero => exact ⟨0, fun i h => by omega⟩
                | succ i => exact ⟨(ks[i]'(by omega)).h.t, fun j hj => ⟨ks[i]'(by omega), (by obtain rfl : i = j := Nat.succ.inj hj; exact List.getElem?_eq_getElem _), rfl⟩⟩
              have HD := Lib.hid (right2_step ks hf ht k hlt2 pt hpt q okb HQ2.out)
              have hB9 : Below w0.heap.size w0 (wr.alloc ks[k].h.obj) := hbe.alloc hz _
              have hbx := brAt_new wr ks[k].h 25
              have hz9 : (wr.alloc ks[k].h.obj).heap.size = wr.heap.size + 1 := by simp
              have HR10 : Hid (R10 (wr.alloc ks[k].h.obj) w.heap.size wr.heap.size b1 off ks.length kc k hf ht ks[k].h.k ks[k].h.m ks[k].h.f ks[k].h.t ks[k].h.np ks[k].h.nn ks[k].h.nc ks[k].h.kp ks[k].h.kn ks[k].h.kc pt okb ks[k].right2) := Lib.hid {
                HS := fun W hW => by
                  obtain ⟨_, _, d2, d3, d4, d5⟩ := C0.out W (hB9.trans (hW.mono hB9.size))
                  obtain ⟨e0, e1, e2, e3, e4, e5⟩ := (hbx.step (by rw [hz9]; omega) hW).box
                  exact ⟨d2, d3, d5, e0, e1, e2, e3, e4, e5⟩
                HP := fun i1 hi1 W hW => by
                  obtain ⟨b, hb, hbt⟩ := hpt i1 hi1
                  obtain ⟨hil, hbe2⟩ := List.getElem?_eq_some_iff.1 hb
                  have := ((hkat i1 hil).step hb1 (hB9.trans (hW.mono hB9.size))).2.2.2.1
                  rw [hbe2, hbt] at this
                  exact this
                HX := fun W hW => HI.out ks[k] hmem W ((HL.out _ hmem).step _ (hB9.trans (hW.mono hB9.size))) (HF2.out _ hmem) hxs
                hi := hlt2
                hk := by omega }
              have hr1 : (0 : Int) ≤ (k : Int) := by omega
              have hr2 : (k : Int) < (ks.length : Int) := by omega
              have HB9 := Lib.hid hB9
              have HPT := Lib.hid hpt
              clear hkat hmem hxs hbe hB9 hbx hpt b0 b1' b4 b2 b3
              generalize ks[k] = x at *
              go_wp2_with fail
              refine right10_any HR10.out (Fs.of rfl rfl (by simp [Act.eval])) ?_ ?_
              · intro c a a' w hd h
                have h2 : a.defers = [] ∧ _ := h
                exact ⟨hd.trans h2.1, h2.2⟩
              intro a2 w2 hF hB2
              obtain ⟨u, rfl⟩ := hF
              simp only [Array.getD_eq_getD_getElem?, List.getElem?_toArray, List.getElem?_cons_succ, List.getElem?_cons_zero, Option.getD_some]
              have HB2 := Lib.hid (HB9.out.trans (hB2.mono HB9.out.size))
              clear hB2
              generalize kidOk okb x.right2 hf ht x.h.f x.h.t k pt = okn at *
              go_wp2_with fail
              go_roundw
              case rel => exact ⟨k + 1, okn, by omega, by go_num, rfl, HD, HB2.out⟩
              case measure => simp [intOf]; omega
            · have hqe : q = okb := by
                rw [HQ2.out, List.drop_eq_nil_of_le (by omega)]
                simp [rights2]
              subst hqe
              have HB := Lib.hid (B0.out.trans (hbe.mono B0.out.size))
              go_wp2_with fail
              go_ret
              exact ⟨rfl, HB.out⟩
    · by_cases h2 : hf ≤ ht
      · have hok : okA = true := by rw [HOK.out]; simp [h2]; omega
        subst hok
        have h3 : (0 : Int) ≤ hf := by omega
        go_enter Try.func27, Try.ntmps27
        go_wp2_with fail
        rw [← e0]
        clear e0
        go_loopw [4, 3] (fun iv okv wr => ∃ (i : Nat) (okb : Bool), i ≤ nn ∧ iv = .int .i64 i ∧ okv = .bool okb ∧ Hid (q = (okb && ((ns.drop i).all (fun x => decide (hf ≤ x) && decide (x < ht)) && rights2 hf ht none ks))) ∧ Below w0.heap.size w0 wr) (fun iv _ _ => nn - (intOf iv).toNat)
        case atStart => exact ⟨0, true, by omega, rfl, rfl, HR, Below.refl _ _⟩
        case round =>
          obtain ⟨i, okb, hi, rfl, rfl, HQ, hbe1⟩ := hrel
          have hz1 := hbe1.size
          obtain ⟨a0, a1, a2, a3, a4, a5⟩ := C0.out _ hbe1
          try simp only at a2 a3 a4 a5
          have HBE1 := Lib.hid hbe1
          clear hbe1
          by_cases hlt : i < nn
          · obtain ⟨b1, off, rfl, hc1, hb1, hatn⟩ := HNM.out.2.resolve_left (by omega)
            have hil : i < ns.length := by rw [← HNN.out]; exact hlt
            have c0 : wr.cell? ⟨b1, off + i, none⟩ = some (.int .i64 ns[i]) := (hatn.step hb1 HBE1.out) i hil
            have hr1 : (0 : Int) ≤ (i : Int) := by omega
            have hr2 : (i : Int) < (nn : Int) := by omega
            have HD : Hid (q = (okb && ((decide (hf ≤ ns[i]) && decide (ns[i] < ht)) && (ns.drop (i + 1)).all (fun x => decide (hf ≤ x) && decide (x < ht)) && rights2 hf ht none ks))) := Lib.hid (by
              rw [HQ.out, List.drop_eq_getElem_cons hil, List.all_cons])
            clear hatn
            generalize ns[i] = x at *
            cases okb
            · have HD2 : Hid (q = (false && ((ns.drop (i + 1)).all (fun x => decide (hf ≤ x) && decide (x < ht)) && rights2 hf ht none ks))) := Lib.hid (by rw [HD.out]; simp)
              go_wp2_with fail
              go_quiet (fail)
              go_wp2_with fail
              go_roundw
              case rel => exact ⟨i + 1, false, by omega, by go_num, (by first | rfl | simp_all), HD2, below_drewN HBE1.out _⟩
              case measure => simp [intOf]; omega
            · by_cases hx1 : hf ≤ x
              · by_cases hx2 : x < ht
                · have HD2 : Hid (q = (true && ((ns.drop (i + 1)).all (fun x => decide (hf ≤ x) && decide (x < ht)) && rights2 hf ht none ks))) := Lib.hid (by rw [HD.out]; simp [hx1, hx2])
                  first
                    | exact absurd (by omega : hf ≤ ht) h2
                    | (go_wp2_with fail
                       go_quiet (fail)
                       go_wp2_with fail
                       go_roundw
                       case rel => exact ⟨i + 1, true, by omega, by go_num, rfl, HD2, below_drewN HBE1.out _⟩
                       case measure => simp [intOf]; omega)
                · have HD2 : Hid (q = (false && ((ns.drop (i + 1)).all (fun x => decide (hf ≤ x) && decide (x < ht)) && rights2 hf ht none ks))) := Lib.hid (by rw [HD.out]; simp [hx2])
                  have hdx := decide_eq_false hx2
                  go_wp2_with fail
                  go_quiet (fail)
                  go_wp2_with fail
                  go_roundw
                  case rel => exact ⟨i + 1, false, by omega, by go_num, (by first | rfl | simp_all), HD2, below_drewN HBE1.out _⟩
                  case measure => simp [intOf]; omega
              · have HD2 : Hid (q = (false && ((ns.drop (i + 1)).all (fun x => decide (hf ≤ x) && decide (x < ht)) && rights2 hf ht none ks))) := Lib.hid (by rw [HD.out]; simp [hx1])
                have hdx := decide_eq_false hx1
                go_wp2_with fail
                go_quiet (fail)
                go_wp2_with fail
                go_roundw
                case rel => exact ⟨i + 1, false, by omega, by go_num, (by first | rfl | simp_all), HD2, below_drewN HBE1.out _⟩
                case measure => simp [intOf]; omega
          · have HR2 : Hid (q = (okb && rights2 hf ht none ks)) := Lib.hid (by
              rw [HQ.out, List.drop_eq_nil_of_le (by rw [← HNN.out]; omega)]; simp)
            go_wp2_with fail
            go_loopw [5, 3] (fun iv okv wr => ∃ (k : Nat) (okb : Bool), k ≤ ks.length ∧ iv = .int .i64 k ∧ okv = .bool okb ∧ Hid (q = (okb && rights2 hf ht (prevT ks k) (ks.drop k))) ∧ Below w0.heap.size w0 wr) (fun iv _ _ => ks.length - (intOf iv).toNat)
            case atStart => exact ⟨0, okb, by omega, rfl, rfl, Lib.hid (by rw [HR2.out]; rfl), HBE1.out⟩
            case round =>
              obtain ⟨k, okb, hk0, rfl, rfl, HQ2, hbe⟩ := hrel
              obtain ⟨b0, b1', b2, b3, b4, b5⟩ := C0.out _ hbe
              try simp only at b2 b3 b4 b5
              have hz := hbe.size
              by_cases hlt2 : k < ks.length
              · obtain ⟨b1, off, rfl, hcap, hb1, hkat⟩ := HK.out.2.resolve_left (by omega)
                obtain ⟨c0, c1, c2, c3, c4, c5⟩ := (hkat k hlt2).step hb1 hbe
                have hmem := List.getElem_mem hlt2
                have hxs : ks[k].size ≤ 1000 := by have := size_le_sizes hmem; omega
                obtain ⟨pt, hpt⟩ : ∃ pt : Int, ∀ i, k = i + 1 → ∃ b, ks[i]? = some b ∧ b.h.t = pt := by
                  cases k with
                  | zero => exact ⟨0, fun i h => by omega⟩
                  | succ i => exact ⟨(ks[i]'(by omega)).h.t, fun j hj => ⟨ks[i]'(by omega), (by obtain rfl : i = j := Nat.succ.inj hj; exact List.getElem?_eq_getElem _), rfl⟩⟩
                have HD := Lib.hid (right2_step ks hf ht k hlt2 pt hpt q okb HQ2.out)
                have hB9 : Below w0.heap.size w0 (wr.alloc ks[k].h.obj) := hbe.alloc hz _
                have hbx := brAt_new wr ks[k].h 25
                have hz9 : (wr.alloc ks[k].h.obj).heap.size = wr.heap.size + 1 := by simp
                have HR10 : Hid (R10 (wr.alloc ks[k].h.obj) w.heap.size wr.heap.size b1 off ks.length kc k hf ht ks[k].h.k ks[k].h.m ks[k].h.f ks[k].h.t ks[k].h.np ks[k].h.nn ks[k].h.nc ks[k].h.kp ks[k].h.kn ks[k].h.kc pt okb ks[k].right2) := Lib.hid {
                  HS := fun W hW => by
                    obtain ⟨_, _, d2, d3, d4, d5⟩ := C0.out W (hB9.trans (hW.mono hB9.size))
                    obtain ⟨e0, e1, e2, e3, e4, e5⟩ := (hbx.step (by rw [hz9]; omega) hW).box
                    exact ⟨d2, d3, d5, e0, e1, e2, e3, e4, e5⟩
                  HP := fun i1 hi1 W hW => by
                    obtain ⟨b, hb, hbt⟩ := hpt i1 hi1
                    obtain ⟨hil, hbe2⟩ := List.getElem?_eq_some_iff.1 hb
                    have := ((hkat i1 hil).step hb1 (hB9.trans (hW.mono hB9.size))).2.2.2.1
                    rw [hbe2, hbt] at this
                    exact this
                  HX := fun W hW => HI.out ks[k] hmem W ((HL.out _ hmem).step _ (hB9.trans (hW.mono hB9.size))) (HF2.out _ hmem) hxs
                  hi := hlt2
                  hk := by omega }
                have hr1 : (0 : Int) ≤ (k : Int) := by omega
                have hr2 : (k : Int) < (ks.length : Int) := by omega
                have HB9 := Lib.hid hB9
                have HPT := Lib.hid hpt
                clear hkat hmem hxs hbe hB9 hbx hpt b0 b1' b4 b2 b3
                generalize ks[k] = x at *
                go_wp2_with fail
                refine right10_any HR10.out (Fs.of rfl rfl (by simp [Act.eval])) ?_ ?_
                · intro c a a' w hd h
                  have h2 : a.defers = [] ∧ _ := h
                  exact ⟨hd.trans h2.1, h2.2⟩
                intro a2 w2 hF hB2
                obtain ⟨u, rfl⟩ := hF
                simp only [Array.getD_eq_getD_getElem?, List.getElem?_toArray, List.getElem?_cons_succ, List.getElem?_cons_zero, Option.getD_some]
                have HB2 := Lib.hid (HB9.out.trans (hB2.mono HB9.out.size))
                clear hB2
                generalize kidOk okb x.right2 hf ht x.h.f x.h.t k pt = okn at *
                go_wp2_with fail
                go_roundw
                case rel => exact ⟨k + 1, okn, by omega, by go_num, rfl, HD, HB2.out⟩
                case measure => simp [intOf]; omega
              · have hqe : q = okb := by
                  rw [HQ2.out, List.drop_eq_nil_of_le (by omega)]
                  simp [rights2]
                subst hqe
                have HB := Lib.hid (B0.out.trans (hbe.mono B0.out.size))
                go_wp2_with fail
                go_ret
                exact ⟨rfl, HB.out⟩
      · have hok : okA = false := by rw [HOK.out]; simp [h2]
        subst hok
        have h3 : (0 : Int) ≤ hf := by omega
        go_enter Try.func27, Try.ntmps27
        go_wp2_with fail
        rw [← e0]
        clear e0
        go_loopw [4, 3] (fun iv okv wr => ∃ (i : Nat) (okb : Bool), i ≤ nn ∧ iv = .int .i64 i ∧ okv = .bool okb ∧ Hid (q = (okb && ((ns.drop i).all (fun x => decide (hf ≤ x) && decide (x < ht)) && rights2 hf ht none ks))) ∧ Below w0.heap.size w0 wr) (fun iv _ _ => nn - (intOf iv).toNat)
        case atStart => exact ⟨0, false, by omega, rfl, rfl, HR, Below.refl _ _⟩
        case round =>
          obtain ⟨i, okb, hi, rfl, rfl, HQ, hbe1⟩ := hrel
          have hz1 := hbe1.size
          obtain ⟨a0, a1, a2, a3, a4, a5⟩ := C0.out _ hbe1
          try simp only at a2 a3 a4 a5
          have HBE1 := Lib.hid hbe1
          clear hbe1
          by_cases hlt : i < nn
          · obtain ⟨b1, off, rfl, hc1, hb1, hatn⟩ := HNM.out.2.resolve_left (by omega)
            have hil : i < ns.length := by rw [← HNN.out]; exact hlt
            have c0 : wr.cell? ⟨b1, off + i, none⟩ = some (.int .i64 ns[i]) := (hatn.step hb1 HBE1.out) i hil
            have hr1 : (0 : Int) ≤ (i : Int) := by omega
            have hr2 : (i : Int) < (nn : Int) := by omega
            have HD : Hid (q = (okb && ((decide (hf ≤ ns[i]) && decide (ns[i] < ht)) && (ns.drop (i + 1)).all (fun x => decide (hf ≤ x) && decide (x < ht)) && rights2 hf ht none ks))) := Lib.hid (by
              rw [HQ.out, List.drop_eq_getElem_cons hil, List.all_cons])
            clear hatn
            generalize ns[i] = x at *
            cases okb
            · have HD2 : Hid (q = (false && ((ns.drop (i + 1)).all (fun x => decide (hf ≤ x) && decide (x < ht)) && rights2 hf ht none ks))) := Lib.hid (by rw [HD.out]; simp)
              go_wp2_with fail
              go_quiet (fail)
              go_wp2_with fail
              go_roundw
              case rel => exact ⟨i + 1, false, by omega, by go_num, (by first | rfl | simp_all), HD2, below_drewN HBE1.out _⟩
              case measure => simp [intOf]; omega
            · by_cases hx1 : hf ≤ x
              · by_cases hx2 : x < ht
                · have HD2 : Hid (q = (true && ((ns.drop (i + 1)).all (fun x => decide (hf ≤ x) && decide (x < ht)) && rights2 hf ht none ks))) := Lib.hid (by rw [HD.out]; simp [hx1, hx2])
                  exact absurd (Int.lt_trans h2 (Int.lt_of_le_of_lt hx1 hx2)) (Int.lt_irrefl _)
                · have HD2 : Hid (q = (false && ((ns.drop (i + 1)).all (fun x => decide (hf ≤ x) && decide (x < ht)) && rights2 hf ht none ks))) := Lib.hid (by rw [HD.out]; simp [hx2])
                  have hdx := decide_eq_false hx2
                  go_wp2_with fail
                  go_quiet (fail)
                  go_wp2_with fail
                  go_roundw
                  case rel => exact ⟨i + 1, false, by omega, by go_num, (by first | rfl | simp_all), HD2, below_drewN HBE1.out _⟩
                  case measure => simp [intOf]; omega
              · have HD2 : Hid (q = (false && ((ns.drop (i + 1)).all (fun x => decide (hf ≤ x) && decide (x < ht)) && rights2 hf ht none ks))) := Lib.hid (by rw [HD.out]; simp [hx1])
                have hdx := decide_eq_false hx1
                go_wp2_with fail
                go_quiet (fail)
                go_wp2_with fail
                go_roundw
                case rel => exact ⟨i + 1, false, by omega, by go_num, (by first | rfl | simp_all), HD2, below_drewN HBE1.out _⟩
                case measure => simp [intOf]; omega
          · have HR2 : Hid (q = (okb && rights2 hf ht none ks)) := Lib.hid (by
              rw [HQ.out, List.drop_eq_nil_of_le (by rw [← HNN.out]; omega)]; simp)
            go_wp2_with fail
            go_loopw [5, 3] (fun iv okv wr => ∃ (k : Nat) (okb : Bool), k ≤ ks.length ∧ iv = .int .i64 k ∧ okv = .bool okb ∧ Hid (q = (okb && rights2 hf ht (prevT ks k) (ks.drop k))) ∧ Below w0.heap.size w0 wr) (fun iv _ _ => ks.length - (intOf iv).toNat)
            case atStart => exact ⟨0, okb, by omega, rfl, rfl, Lib.hid (by rw [HR2.out]; rfl), HBE1.out⟩
            case round =>
              obtain ⟨k, okb, hk0, rfl, rfl, HQ2, hbe⟩ := hrel
              obtain ⟨b0, b1', b2, b3, b4, b5⟩ := C0.out _ hbe
              try simp only at b2 b3 b4 b5
              have hz := hbe.size
              by_cases hlt2 : k < ks.length
              · obtain ⟨b1, off, rfl, hcap, hb1, hkat⟩ := HK.out.2.resolve_left (by omega)
                obtain ⟨c0, c1, c2, c3, c4, c5⟩ := (hkat k hlt2).step hb1 hbe
                have hmem := List.getElem_mem hlt2
                have hxs : ks[k].size ≤ 1000 := by have := size_le_sizes hmem; omega
                obtain ⟨pt, hpt⟩ : ∃ pt : Int, ∀ i, k = i + 1 → ∃ b, ks[i]? = some b ∧ b.h.t = pt := by
                  cases k with
                  | zero => exact ⟨0, fun i h => by omega⟩
                  | succ i => exact ⟨(ks[i]'(by omega)).h.t, fun j hj => ⟨ks[i]'(by omega), (by obtain rfl : i = j := Nat.succ.inj hj; exact List.getElem?_eq_getElem _), rfl⟩⟩
                have HD := Lib.hid (right2_step ks hf ht k hlt2 pt hpt q okb HQ2.out)
                have hB9 : Below w0.heap.size w0 (wr.alloc ks[k].h.obj) := hbe.alloc hz _
                have hbx := brAt_new wr ks[k].h 25
                have hz9 : (wr.alloc ks[k].h.obj).heap.size = wr.heap.size + 1 := by simp
                have HR10 : Hid (R10 (wr.alloc ks[k].h.obj) w.heap.size wr.heap.size b1 off ks.length kc k hf ht ks[k].h.k ks[k].h.m ks[k].h.f ks[k].h.t ks[k].h.np ks[k].h.nn ks[k].h.nc ks[k].h.kp ks[k].h.kn ks[k].h.kc pt okb ks[k].right2) := Lib.hid {
                  HS := fun W hW => by
                    obtain ⟨_, _, d2, d3, d4, d5⟩ := C0.out W (hB9.trans (hW.mono hB9.size))
                    obtain ⟨e0, e1, e2, e3, e4, e5⟩ := (hbx.step (by rw [hz9]; omega) hW).box
                    exact ⟨d2, d3, d5, e0, e1, e2, e3, e4, e5⟩
                  HP := fun i1 hi1 W hW => by
                    obtain ⟨b, hb, hbt⟩ := hpt i1 hi1
                    obtain ⟨hil, hbe2⟩ := List.getElem?_eq_some_iff.1 hb
                    have := ((hkat i1 hil).step hb1 (hB9.trans (hW.mono hB9.size))).2.2.2.1
                    rw [hbe2, hbt] at this
                    exact this
                  HX := fun W hW => HI.out ks[k] hmem W ((HL.out _ hmem).step _ (hB9.trans (hW.mono hB9.size))) (HF2.out _ hmem) hxs
                  hi := hlt2
                  hk := by omega }
                have hr1 : (0 : Int) ≤ (k : Int) := by omega
                have hr2 : (k : Int) < (ks.length : Int) := by omega
                have HB9 := Lib.hid hB9
                have HPT := Lib.hid hpt
                clear hkat hmem hxs hbe hB9 hbx hpt b0 b1' b4 b2 b3
                generalize ks[k] = x at *
                go_wp2_with fail
                refine right10_any HR10.out (Fs.of rfl rfl (by simp [Act.eval])) ?_ ?_
                · intro c a a' w hd h
                  have h2 : a.defers = [] ∧ _ := h
                  exact ⟨hd.trans h2.1, h2.2⟩
                intro a2 w2 hF hB2
                obtain ⟨u, rfl⟩ := hF
                simp only [Array.getD_eq_getD_getElem?, List.getElem?_toArray, List.getElem?_cons_succ, List.getElem?_cons_zero, Option.getD_some]
                have HB2 := Lib.hid (HB9.out.trans (hB2.mono HB9.out.size))
                clear hB2
                generalize kidOk okb x.right2 hf ht x.h.f x.h.t k pt = okn at *
                go_wp2_with fail
                go_roundw
                case rel => exact ⟨k + 1, okn, by omega, by go_num, rfl, HD, HB2.out⟩
                case measure => simp [intOf]; omega
              · have hqe : q = okb := by
                  rw [HQ2.out, List.drop_eq_nil_of_le (by omega)]
                  simp [rights2]
                subst hqe
                have HB := Lib.hid (B0.out.trans (hbe.mono B0.out.size))
                go_wp2_with fail
                go_ret
                exact ⟨rfl, HB.out⟩
end Go.Proofs.Ytcijjeflojaocaa
