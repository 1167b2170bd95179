/-
  An argument that is a branch, read as a plain tree.
-/
import Derived.Test.YtcijjeflojaocaaBase
import Derived.Deep.Slices
import Derived.Deep.SlicePairs
import Derived.ChangeSame
import Derived.ProofKit
import Derived.OpenShut
import Derived.ChangeOld
import Derived.Carry
import Derived.Lib.SmallJoins
namespace Go.Proofs.Ytcijjeflojaocaa
open Go.ChangeShapes Go.WideShapes Go.ChangeAt Go.RowKit Go.Deep
set_option linter.unusedVariables false
set_option linter.unusedSimpArgs false

theorem ints_cells {H : Type} {enc : TypeId × Value → H} {W : World} {fuel : Nat} {cs : List Value} {x : DataW H × List MemPlace}
    (h : DataW.trod enc Try.prog W 0 (fun _ => true) true fuel 22 cs = some x) : ∃ q n cap l, cs = [.slice q n cap] ∧ n ≤ maxLen ∧ In mkI W q n cap l := by
  rcases open_slice Try.underlying22 h with ⟨hcs, _⟩ | ⟨a, len, cap, m, nn, D, Pl, hcs, _, hl, hm, hmm, _, hel⟩
  · exact ⟨none, 0, 0, [], hcs, by omega, ⟨rfl, .inl rfl⟩⟩
  · rw [if_pos rfl] at hmm
    subst hmm
    cases len with
    | zero => exact ⟨some a, 0, m, [], hcs, by omega, ⟨rfl, .inl rfl⟩⟩
    | succ j =>
      have hce : Try.prog.cellsOf 3 = 1 := by kernel_rfl
      have each : ∀ i, i < m → ∃ x : Int, W.cell? (a.add i) = some (.int .i64 x) := fun i hi => by
        obtain ⟨cs', h1, h2⟩ := hel i hi
        rw [hce, Nat.mul_one] at h1
        obtain ⟨_, hlen, hcell⟩ := World.cells?_some h1
        obtain ⟨x, hx, _, hw⟩ := DataW.trod_int Try.underlying3 h2
        have c0 := hcell 0 (by omega)
        rw [hx] at c0
        have ha : (a.add i).add 0 = a.add i := by unfold Addr.add; simp
        rw [ha] at c0
        exact ⟨x, by simpa using c0⟩
      obtain ⟨b, off, spot⟩ := a
      obtain ⟨x0, h0⟩ := each 0 (by omega)
      have hspot : spot = none := by simpa [Addr.add] using World.cell?_spot h0
      subst hspot
      have hadd : ∀ k, (⟨b, off, none⟩ : Addr).add k = ⟨b, off + k, none⟩ := fun k => by
        unfold Addr.add; split <;> simp_all
      obtain ⟨q, hq⟩ := choose_lt each
      refine ⟨some ⟨b, off, none⟩, j + 1, m, (List.range (j + 1)).map q, hcs, by omega, ⟨by simp, .inr ⟨b, off, rfl, hl, World.block_lt_of_cell? W _ h0, ?_⟩⟩⟩
      intro i hi
      have hi2 : i < m := by simp at hi; omega
      have c0 := hq i hi2
      simp only [List.getElem_map, List.getElem_range]
      rw [hadd] at c0
      exact c0

theorem br_of_trod {H : Type} {enc : TypeId × Value → H} {W : World} : ∀ (fuel : Nat) (cs : List Value) (x : DataW H × List MemPlace),
    DataW.trod enc Try.prog W 0 (fun _ => true) true fuel 25 cs = some x → ∃ b : Br, b.Lies W ∧ cs = [.int .i64 b.h.k, .int .i64 b.h.m, .int .i64 b.h.f, .int .i64 b.h.t, .slice b.h.np b.h.nn b.h.nc, .slice b.h.kp b.h.kn b.h.kc] := by
  intro fuel
  induction fuel using Nat.strongRecOn with
  | _ fuel ih =>
    intro cs x h
    obtain ⟨xs, n, rfl, _, hl, hlen, hf⟩ := DataW.trod_struct Try.underlying25 h
    have hc25 : Try.prog.cellsOf 25 = 6 := by kernel_rfl
    have hc3 : Try.prog.cellsOf 3 = 1 := by kernel_rfl
    have hc22 : Try.prog.cellsOf 22 = 1 := by kernel_rfl
    have hc23 : Try.prog.cellsOf 23 = 1 := by kernel_rfl
    rw [hc25] at hl
    match cs, hl, xs, hlen with
    | [c0, c1, c2, c3, c4, c5], _, [y0, y1, y2, y3, y4, y5], _ =>
      have g0 := hf 0 _ rfl
      have g1 := hf 1 _ rfl
      have g2 := hf 2 _ rfl
      have g3 := hf 3 _ rfl
      have g4 := hf 4 _ rfl
      have g5 := hf 5 _ rfl
      simp [hc3, hc22, hc23] at g0 g1 g2 g3 g4 g5
      obtain ⟨i0, e0, _, _⟩ := DataW.trod_int Try.underlying3 g0
      obtain ⟨i1, e1, _, _⟩ := DataW.trod_int Try.underlying3 g1
      obtain ⟨i2, e2, _, _⟩ := DataW.trod_int Try.underlying3 g2
      obtain ⟨i3, e3, _, _⟩ := DataW.trod_int Try.underlying3 g3
      obtain ⟨np, nn, nc, ns, e4, hnn, hin⟩ := ints_cells g4
      simp only [List.cons.injEq, and_true] at e0 e1 e2 e3 e4
      subst e0 e1 e2 e3 e4
      rcases DataW.trod_slice Try.underlying23 g5 with ⟨e5, _⟩ | ⟨a, len, cap, elems, rest, n', hn', e5, _, _, hle, _, hel, hat, _, _⟩
      · simp only [List.cons.injEq, and_true] at e5
        subst e5
        exact ⟨.mk ⟨i0, i1, i2, i3, np, nn, nc, ns, none, 0, 0⟩ [], (lies_iff _ _).2 ⟨hin, ⟨rfl, .inl rfl⟩, fun x hx => by cases hx⟩, rfl⟩
      · simp only [List.cons.injEq, and_true] at e5
        subst e5
        cases len with
        | zero => exact ⟨.mk ⟨i0, i1, i2, i3, np, nn, nc, ns, some a, 0, cap⟩ [], (lies_iff _ _).2 ⟨hin, ⟨rfl, .inl rfl⟩, fun x hx => by cases hx⟩, rfl⟩
        | succ j =>
          have each : ∀ i, i < j + 1 → ∃ b : Br, b.Lies W ∧ W.cell? ((a.add (i * 6)).add 0) = some (.int .i64 b.h.k) ∧ W.cell? ((a.add (i * 6)).add 1) = some (.int .i64 b.h.m) ∧ W.cell? ((a.add (i * 6)).add 2) = some (.int .i64 b.h.f) ∧ W.cell? ((a.add (i * 6)).add 3) = some (.int .i64 b.h.t) ∧ W.cell? ((a.add (i * 6)).add 4) = some (.slice b.h.np b.h.nn b.h.nc) ∧ W.cell? ((a.add (i * 6)).add 5) = some (.slice b.h.kp b.h.kn b.h.kc) := fun i hi => by
            have h1 := hat i hi
            rw [hc25, List.getElem?_eq_getElem (by omega)] at h1
            obtain ⟨cs', h2, h3⟩ := Option.bind_eq_some_iff.1 h1
            obtain ⟨b, hb, rfl⟩ := ih n' (by omega) cs' _ h3
            obtain ⟨_, hlen6, hcell⟩ := World.cells?_some h2
            refine ⟨b, hb, ?_, ?_, ?_, ?_, ?_, ?_⟩
            · simpa using hcell 0 (by omega)
            · simpa using hcell 1 (by omega)
            · simpa using hcell 2 (by omega)
            · simpa using hcell 3 (by omega)
            · simpa using hcell 4 (by omega)
            · simpa using hcell 5 (by omega)
          obtain ⟨b, off, spot⟩ := a
          obtain ⟨_, _, h0, _⟩ := each 0 (by omega)
          have hspot : spot = none := by simpa [Addr.add] using World.cell?_spot h0
          subst hspot
          have hadd : ∀ k, (⟨b, off, none⟩ : Addr).add k = ⟨b, off + k, none⟩ := fun k => by
            unfold Addr.add; split <;> simp_all
          have hadd2 : ∀ o k, (⟨b, o, none⟩ : Addr).add k = ⟨b, o + k, none⟩ := fun o k => by
            unfold Addr.add; split <;> simp_all
          have hinh : Inhabited Br := ⟨.mk ⟨0, 0, 0, 0, none, 0, 0, [], none, 0, 0⟩ []⟩
          obtain ⟨q, hq⟩ := choose_lt each
          refine ⟨.mk ⟨i0, i1, i2, i3, np, nn, nc, ns, some ⟨b, off, none⟩, j + 1, cap⟩ ((List.range (j + 1)).map q), (lies_iff _ _).2 ⟨hin, ⟨by simp [Br.h, Br.ks], .inr ⟨b, off, rfl, hle, World.block_lt_of_cell? W _ h0, ?_⟩⟩, ?_⟩, rfl⟩
          · intro i hi
            have hi2 : i < j + 1 := by simpa [Br.ks] using hi
            obtain ⟨_, k0, k1, k2, k3, k4, k5⟩ := hq i hi2
            simp only [Br.ks, List.getElem_map, List.getElem_range]
            rw [hadd, hadd2] at k0 k1 k2 k3 k4 k5
            exact ⟨k0, k1, k2, k3, k4, k5⟩
          · intro x hx
            simp only [Br.ks] at hx
            obtain ⟨i, hi, rfl⟩ := List.mem_map.1 hx
            exact (hq i (by simpa using hi)).1

theorem branch_arg {H : Type} {enc : TypeId × Value → H} {W : World} {base : Nat} {v : Value} {d : DataW H} {p : List MemPlace} (hv : Value.okWide Try.prog W .any base 25 v)
    (h : DataW.Trod enc Try.prog W 0 (fun _ => true) true 25 v d p) : ∃ b : Br, v = b.h.val ∧ b.Lies W := by
  have hu : ∃ fs, Try.prog.underlying 25 = some (.struct fs) := ⟨_, Try.underlying25⟩
  obtain ⟨fs, hu⟩ := hu
  obtain ⟨cs, rfl, hsz⟩ := okWide_struct hu hv
  obtain ⟨fuel, hf⟩ := h
  obtain ⟨b, hb, hcs⟩ := br_of_trod fuel _ _ hf
  refine ⟨b, ?_, hb⟩
  have : cs.toList = [.int .i64 b.h.k, .int .i64 b.h.m, .int .i64 b.h.f, .int .i64 b.h.t, .slice b.h.np b.h.nn b.h.nc, .slice b.h.kp b.h.kn b.h.kc] := by simpa [Value.cells] using hcs
  show Value.agg cs = Value.agg _
  congr 1
  exact Array.toList_inj.1 this
end Go.Proofs.Ytcijjeflojaocaa
