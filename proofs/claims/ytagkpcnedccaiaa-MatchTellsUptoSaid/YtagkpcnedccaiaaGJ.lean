/-
  A list of bindings that is handed in: its size is at most its bulk.
-/
import Derived.Test.YtagkpcnedccaiaaFB
import Derived.Test.YtagkpcnedccaiaaRows
namespace Go.Proofs.Ytagkpcnedccaiaa
open Go.ChangeShapes Go.WideShapes Go.ChangeAt Go.RowKit Go.Deep
set_option maxRecDepth 20000
set_option linter.unusedVariables false
set_option linter.unusedSimpArgs false
theorem sizes_bulk {H : Type} : ∀ (l : List Bn) (ds : List (DataW H)), (∀ (i : Nat) (b : Bn), l[i]? = some b → ∃ d, ds[i]? = some d ∧ b.size ≤ Rows.uptoBulk d) → sizes l ≤ Rows.uptoBulkAll ds
 | [], _, _ => Nat.zero_le _
 | b :: r, [], h => by obtain ⟨d, hd, _⟩ := h 0 b rfl; simp at hd
 | b :: r, d :: ds, h => by
  have ih := sizes_bulk r ds fun i b hb => by
   obtain ⟨d, hd, hs⟩ := h (i + 1) b (by simpa using hb)
   exact ⟨d, by simpa using hd, hs⟩
  obtain ⟨d', hd, hs⟩ := h 0 b rfl
  simp only [List.getElem?_cons_zero, Option.some.injEq] at hd
  subst hd
  simp only [sizes, Rows.uptoBulkAll]; omega
theorem binds_of_trod2 {H : Type} {enc : TypeId × Value → H} {W : World} : ∀ (fuel : Nat) (cs : List Value) (x : DataW H × List MemPlace),
  DataW.trod enc Try.prog W 0 (fun _ => true) true fuel 22 cs = some x → ∃ p n c l, cs = [.slice p n c] ∧ n ≤ maxLen ∧ Bl W p n c l ∧ sizes l ≤ Rows.uptoBulk x.1 ∧ (p = none → n = 0 ∧ c = 0) := by
 intro fuel
 induction fuel using Nat.strongRecOn with
 | _ fuel ih =>
  intro cs x h
  have hc45 : Try.prog.cellsOf 33 = 6 := by kernel_rfl
  have hc3 : Try.prog.cellsOf 3 = 1 := by kernel_rfl
  have hc9 : Try.prog.cellsOf 9 = 1 := by kernel_rfl
  have hc22 : Try.prog.cellsOf 22 = 1 := by kernel_rfl
  rcases DataW.trod_slice Try.underlying22 h with ⟨e5, hex⟩ | ⟨a, len, cap, elems, rest, n', hn', e5, hex, _, hle, hmx, hel, hat, _, _⟩
  ·exact ⟨none, 0, 0, [], e5, by omega, ⟨⟨rfl, .inl rfl⟩, trivial⟩, Nat.zero_le _, fun _ => ⟨rfl, rfl⟩⟩
  ·cases len with
   | zero => exact ⟨some a, 0, cap, [], e5, by omega, ⟨⟨rfl, .inl rfl⟩, trivial⟩, Nat.zero_le _, fun h => by cases h⟩
   | succ j =>
    have each : ∀ i, i < j + 1 → ∃ b : Bn, (b.Lies W ∧ ∃ y, elems[i]? = some y ∧ b.size ≤ Rows.uptoBulk y.1) ∧ W.cell? ((a.add (i * 6)).add 0) = some (.int .i64 b.h.k.1) ∧ W.cell? ((a.add (i * 6)).add 1) = some (.string b.h.k.2) ∧ W.cell? ((a.add (i * 6)).add 2) = some (.int .i64 b.h.dc) ∧ W.cell? ((a.add (i * 6)).add 3) = some (.int .i64 b.h.via) ∧ W.cell? ((a.add (i * 6)).add 4) = some (.slice b.h.pp b.h.pn b.h.pc) ∧ W.cell? ((a.add (i * 6)).add 5) = some (.slice b.h.qp b.h.qn b.h.qc) := fun i hi => by
     have h1 := hat i hi
     rw [hc45, List.getElem?_eq_getElem (by omega)] at h1
     have hei : elems[i]? = some (elems[i]'(by omega)) := List.getElem?_eq_getElem (by omega)
     generalize elems[i]'(by omega) = yy at h1 hei
     obtain ⟨cs', h2, h3⟩ := Option.bind_eq_some_iff.1 h1
     obtain ⟨_, hlen6, hcell⟩ := World.cells?_some h2
     obtain ⟨xs, m, hm, hxs, hl, hlen, hf⟩ := DataW.trod_struct Try.underlying33 h3
     rw [hc45] at hl
     match cs', hl, xs, hlen with
     | [c0, c1, c2, c3, c4, c5], _, [y0, y1, y2, y3, y4, y5], _ =>
      have g0 := hf 0 _ rfl
      have g1 := hf 1 _ rfl
      have g2 := hf 2 _ rfl
      have g3 := hf 3 _ rfl
      have g4 := hf 4 _ rfl
      have g5 := hf 5 _ rfl
      simp [hc3, hc9, hc22] at g0 g1 g2 g3 g4 g5
      obtain ⟨i0, e0, _, _⟩ := DataW.trod_int Try.underlying3 g0
      obtain ⟨s1, e1, _, _⟩ := DataW.trod_string Try.underlying9 g1
      obtain ⟨i2, e2, _, _⟩ := DataW.trod_int Try.underlying3 g2
      obtain ⟨i3, e3, _, _⟩ := DataW.trod_int Try.underlying3 g3
      obtain ⟨p4, n4, k4, l4, e4, _, b4, z4, _⟩ := ih m (by omega) _ _ g4
      obtain ⟨p5, n5, k5, l5, e5', _, b5, z5, _⟩ := ih m (by omega) _ _ g5
      simp only [List.cons.injEq, and_true] at e0 e1 e2 e3 e4 e5'
      subst e0 e1 e2 e3 e4 e5'
      refine ⟨.mk ⟨(i0, s1), i2, i3, p4, n4, k4, p5, n5, k5⟩ l4 l5, ⟨⟨b4.1, b5.1, b4.2, b5.2⟩, yy, hei, ?_⟩, ?_, ?_, ?_, ?_, ?_, ?_⟩
      ·rw [hxs]; simp only [List.map_cons, List.map_nil, Rows.uptoBulk, Rows.uptoBulkAll, Bn.size]; omega
      ·exact (hcell 0 (by omega)).trans rfl
      ·exact (hcell 1 (by omega)).trans rfl
      ·exact (hcell 2 (by omega)).trans rfl
      ·exact (hcell 3 (by omega)).trans rfl
      ·exact (hcell 4 (by omega)).trans rfl
      ·exact (hcell 5 (by omega)).trans rfl
    obtain ⟨b, off, spot⟩ := a
    obtain ⟨_, _, h0, _⟩ := each 0 (by omega)
    have hspot : spot = none := by simpa [Addr.add] using World.cell?_spot h0
    subst hspot
    have hadd : ∀ k, (⟨b, off, none⟩ : Addr).add k = ⟨b, off + k, none⟩ := fun k => by
     unfold Addr.add; split <;> simp_all
    have hadd2 : ∀ o k, (⟨b, o, none⟩ : Addr).add k = ⟨b, o + k, none⟩ := fun o k => by
     unfold Addr.add; split <;> simp_all
    have hinh : Inhabited Bn := ⟨.mk ⟨(0, ByteArray.empty), 0, 0, none, 0, 0, none, 0, 0⟩ [] []⟩
    obtain ⟨q, hq⟩ := choose_lt each
    refine ⟨some ⟨b, off, none⟩, j + 1, cap, (List.range (j + 1)).map q, e5, by omega, ⟨⟨by simp, .inr ⟨b, off, rfl, hle, World.block_lt_of_cell? W _ h0, ?_⟩⟩, ?_⟩, ?_, fun h => by cases h⟩
    ·intro i y hy
     have hi2 : i < j + 1 := by have := (List.getElem?_eq_some_iff.1 hy).1; simpa using this
     obtain ⟨_, k0, k1, k2, k3, k4, k5⟩ := hq i hi2
     have : y = q i := by simpa [hi2] using hy.symm
     subst this
     rw [hadd, hadd2] at k0 k1 k2 k3 k4 k5
     exact ⟨k0, k1, k2, k3, k4, k5⟩
    ·refine (allLie_iff _ _).2 fun y hy => ?_
     obtain ⟨i, hi, rfl⟩ := List.mem_map.1 hy
     exact (hq i (by simpa using hi)).1.1
    ·rw [hex]
     simp only [Rows.uptoBulk]
     refine Nat.le_trans (sizes_bulk _ (elems.map (·.1)) fun i y hy => ?_) (by omega)
     have hi2 : i < j + 1 := by have := (List.getElem?_eq_some_iff.1 hy).1; simpa using this
     obtain ⟨⟨_, z, hz, hzs⟩, _⟩ := hq i hi2
     have : y = q i := by simpa [hi2] using hy.symm
     subst this
     exact ⟨z.1, by rw [List.getElem?_map, hz]; rfl, hzs⟩
theorem binds_arg2 {H : Type} {enc : TypeId × Value → H} {W : World} {base : Nat} {v : Value} {d : DataW H} {p : List MemPlace} (hv : Value.okWide Try.prog W .any base 22 v)
  (h : DataW.Trod enc Try.prog W 0 (fun _ => true) true 22 v d p) : ∃ q n c l, v = .slice q n c ∧ n ≤ maxLen ∧ Bl W q n c l ∧ sizes l ≤ Rows.uptoBulk d ∧ (q = none → n = 0 ∧ c = 0) := by
 obtain ⟨q, n, c, rfl⟩ := okWide_slice Try.underlying22 hv
 obtain ⟨fuel, hf⟩ := h
 obtain ⟨q', n', c', l, hcs, hn, hb, hs, hq⟩ := binds_of_trod2 fuel _ _ hf
 have : ([.slice q n c] : List Value) = [.slice q' n' c'] := by simpa [Value.cells] using hcs
 simp only [List.cons.injEq, and_true, Value.slice.injEq] at this
 obtain ⟨rfl, rfl, rfl⟩ := this
 exact ⟨_, _, _, l, rfl, hn, hb, hs, hq⟩
end Go.Proofs.Ytagkpcnedccaiaa
