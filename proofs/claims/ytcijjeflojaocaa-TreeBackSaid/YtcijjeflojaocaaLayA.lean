/-
  Clone; a node laid behind the others; a number of a node written.
-/
import Derived.Test.YtcijjeflojaocaaArena
import Derived.Deep.AppendLies
import Derived.Lib.IndexBytes
namespace Go.Proofs.Ytcijjeflojaocaa
open Go.RowKit
set_option linter.unusedVariables false
set_option linter.unusedSimpArgs false

theorem In.lt {α : Type} {mk : α → Value} {w : World} {p : Option Addr} {n c : Nat} {l : List α} (h : In mk w p n c l) (hn : n ≠ 0) : ∃ a, p = some a ∧ a.block < w.heap.size := by
  obtain ⟨_, h0 | ⟨b, off, rfl, _, hb, _⟩⟩ := h
  · exact absurd h0 hn
  · exact ⟨_, rfl, hb⟩

set_option maxHeartbeats 1000000 in
theorem clone_any (p : Option Addr) (n c : Nat) (l : List Int) (w : World) (h : In mkI w p n c l) (hn : n * 8 ≤ 140737488355328) :
    Calls Try.prog 32 #[.slice p n c] w fun e w' => ∃ p' c', e = .returned (.slice p' n c') ∧ In mkI w' p' n c' l ∧ (∀ a, p' = some a → w.heap.size ≤ a.block) ∧ Below w.heap.size w w' := by
  obtain ⟨i0, hi0, hy0, hy1, hy2⟩ := info_parts info3
  have HLN := Lib.hid h.1
  have q22 : ∀ (w : World) (a : Option Addr) (n c n' c' : Nat), (binOp .eql 22 (.slice a n c) (.slice none n' c')).run Try.prog w = .ok (.bool a.isNone) w := fun w a n c n' c' => Lib.run_eql_slice_nil w _ _ a n c n' c' Try.underlying22
  cases p with
  | none =>
    obtain ⟨hx, rfl | ⟨b, off, hp, _⟩⟩ := h
    · have hnil : l = [] := List.length_eq_zero_iff.1 HLN.out.symm
      subst hnil
      clear HLN hn hx
      go_enter Try.func32, Try.ntmps32
      go_wp2
      go_ret
      exact ⟨none, 0, rfl, In.nil _ _ _ _, fun a (ha : none = some a) => absurd ha (by simp), Below.refl _ _⟩
    · cases hp
  | some a =>
    have hb1 : Below w.heap.size w (w.alloc (.cells #[] 3)) := (Below.refl _ _).alloc (Nat.le_refl _) _
    have HI := Lib.hid (h.step hb1)
    have HO : Hid ((w.alloc (.cells #[] 3)).ownsRow w.heap.size 3 1 (.slice (some ⟨w.heap.size, 0, none⟩) 0 0) 0 []) := Lib.hid (own_lit (heap_alloc_new w _) (Nat.le_refl _) rfl (by unfold maxLen; omega))
    have HB := Lib.hid hb1
    have hs : (w.alloc (.cells #[] 3)).heap.size = w.heap.size + 1 := by simp
    have HS := Lib.hid hs
    clear h hb1 hs
    go_enter Try.func32, Try.ntmps32
    go_wp2_with (at_builtin; refine wpList_append_in _ rfl _ _ 22 rfl w.heap.size 3 i0 _ 8 Try.underlying22 hi0 hy0 hy1 hy2 rfl _ 0 _ rfl HO.out mkI oneI _ n c l rfl HI.out (by unfold maxLen; omega) (by omega) (by rw [HS.out]; omega) ?_)
    intro v1 w1 hown hgrow
    obtain ⟨p', c', rfl, hin⟩ := in_of_row (mk := mkI) (l := l) (n := 0 + n) (by simpa using hown) (by rw [← HLN.out]; omega)
    have hfar : ∀ a, p' = some a → w.heap.size ≤ a.block := by
      intro a ha
      subst ha
      exact (hown.lt _ rfl).1
    have HF := Lib.hid hfar
    have hin' : In mkI w1 p' n c' l := by simpa using hin
    have HIN := Lib.hid hin'
    have HB1 := Lib.hid (HB.out.grown hgrow (by rw [HS.out]; omega) (own_below HO.out (Nat.le_refl _)))
    have hz : 0 + n = n := by omega
    clear hown hgrow hin hin' hfar
    rw [hz]
    go_wp2_with fail
    go_ret
    exact ⟨p', c', rfl, HIN.out, HF.out, HB1.out⟩

section
variable {wb : World} {B T Bt Bl : Nat}

/-- A node laid behind the others. -/
theorem St.laid {w w2 w4 : World} {l : List Kn} {d : List Nd} {v : Value} {x : Kn} {p : Option Addr} {n c g cap : Nat} {o : Obj}
    (hT : wb.heap.size ≤ T) (hTB : T < B) (hBt : Bt < B) (hBl : Bl < B) (h1 : Bt ≠ T) (h2 : Bl ≠ T) (hwb : wb.heap.size ≤ B)
    (below : Below wb.heap.size wb w) (size : B ≤ w.heap.size) (bt : w.cell? ⟨Bt, 0, none⟩ = some (.pointer (some ⟨T, 0, none⟩)))
    (bl : w.cell? ⟨Bl, 0, none⟩ = some (.func (.func 31) #[] #[.pointer (some ⟨Bt, 0, none⟩), .pointer (some ⟨Bl, 0, none⟩)]))
    (hd : d.map Nd.x = l) (tt : w.cell? ⟨T, 0, none⟩ = some v) (tf : w.frozen? ⟨T, 0, none⟩ = false) (own : w.ownsRow B 58 9 v l.length (cellsN d)) (names : NamesAt w T v.ownBlock d)
    (hb : Below w.heap.size w w2) (hin : In mkI w2 p n c x.ns) (hnew : ∀ a, p = some a → w.heap.size ≤ a.block)
    (hgrow : (w2.alloc o).grownBy w4 v.ownBlock) (hown : w4.ownsRow B 58 9 (.slice (some ⟨g, 0, none⟩) (l.length + 1) cap) (l.length + 1) (cellsN (d ++ [⟨x, p, n, c⟩]))) (hg : v.ownBlock = some g ∨ g = w2.heap.size + 1) :
    St wb B T Bt Bl (w4.setCell ⟨T, 0, none⟩ (.slice (some ⟨g, 0, none⟩) (l.length + 1) cap)) (l ++ [x]) := by
  have hs2 := hb.size
  have hs3 : (w2.alloc o).heap.size = w2.heap.size + 1 := by simp
  have hs4 := hgrow.size
  have hfar : ∀ j, j < B → w4.heap[j]? = w.heap[j]? := fun j hj => by
    rw [hgrow.block j (by omega) (fun e => by have := (own.lt _ e.symm).1; omega), heap_alloc_old _ _ (by omega), hb.block j (by omega)]
  have hkeep : ∀ j, j < w.heap.size → v.ownBlock ≠ some j → w4.heap[j]? = w.heap[j]? := fun j hj hne => by
    rw [hgrow.block j (by omega) (fun e => hne e.symm), heap_alloc_old _ _ (by omega), hb.block j (by omega)]
  have hcell : ∀ j o, j < B → j ≠ T → (w4.setCell ⟨T, 0, none⟩ (.slice (some ⟨g, 0, none⟩) (l.length + 1) cap)).cell? ⟨j, o, none⟩ = w.cell? ⟨j, o, none⟩ := fun j o hj hne => by
    rw [World.cell?_setCell_other _ _ _ _ (fun e => hne (by injection e with e1; exact e1.symm))]
    exact World.cell?_of_block (hfar j hj)
  have hgT : g ≠ T := fun e => by have := (own_bound hown).1; omega
  have hold : ∀ y ∈ d, In mkI (w4.setCell ⟨T, 0, none⟩ (.slice (some ⟨g, 0, none⟩) (l.length + 1) cap)) y.p y.n y.c y.x.ns ∧ (y.n = 0 ∨ ∃ a, y.p = some a ∧ a.block ≠ T ∧ (some g : Option Nat) ≠ some a.block) := fun y hy => by
    obtain ⟨hi, h3⟩ := names y hy
    by_cases hy0 : y.n = 0
    · exact ⟨⟨hi.1, .inl hy0⟩, .inl hy0⟩
    · obtain ⟨a, ha, haT, hag⟩ := h3.resolve_left hy0
      obtain ⟨a', ha', hlt⟩ := hi.lt hy0
      obtain rfl : a' = a := by rw [ha] at ha'; exact (Option.some.inj ha').symm
      refine ⟨in_kept hi (by simp; omega) (fun b _ hb' => ?_), .inr ⟨_, ha, haT, ?_⟩⟩
      · obtain rfl : b = a' := by rw [ha] at hb'; exact (Option.some.inj hb').symm
        rw [Below.heap_setCell _ _ _ _ haT]
        exact hkeep _ hlt hag
      · rintro e
        rcases hg with h4 | h4
        · exact hag (h4.trans e)
        · simp only [Option.some.injEq] at e; omega
  refine ⟨?_, by simp; omega, ?_, ?_, d ++ [⟨x, p, n, c⟩], .slice (some ⟨g, 0, none⟩) (l.length + 1) cap, by simp [hd], ?_, ?_, ?_, ?_⟩
  · have b2 : Below wb.heap.size wb w2 := below.trans (hb.mono (by omega))
    have b3 := (b2.alloc (by omega) o).grown hgrow (by omega) (fun k hk => by have := (own.lt _ hk).1; omega)
    exact b3.setCell hT _
  · rw [hcell _ _ hBt h1]; exact bt
  · rw [hcell _ _ hBl h2]; exact bl
  · refine World.cell?_setCell_same _ _ _ (u := v) ?_
    rw [World.cell?_of_block (w := w) (hfar T hTB)]; exact tt
  · rw [World.frozen?_setCell, World.frozen?_of_block (w := w) (hfar T hTB)]; exact tf
  · rw [List.length_append]
    exact ownsRow_setCell_other hown (by simpa [Value.ownBlock] using hgT) _
  · intro y hy
    rcases List.mem_append.1 hy with hy | hy
    · exact hold y hy
    · simp only [List.mem_singleton] at hy
      subst hy
      by_cases hn0 : n = 0
      · exact ⟨⟨hin.1, .inl hn0⟩, .inl hn0⟩
      · obtain ⟨a, ha, hlt⟩ := hin.lt hn0
        have hge := hnew a ha
        refine ⟨in_kept hin (by simp; omega) (fun b _ hb' => ?_), .inr ⟨a, ha, by omega, ?_⟩⟩
        · obtain rfl : b = a := by rw [ha] at hb'; exact (Option.some.inj hb').symm
          rw [Below.heap_setCell _ _ _ _ (by simp; omega), hgrow.block _ (by omega) (fun e => by have := (own.lt _ e.symm).2; omega), heap_alloc_old _ _ (by omega)]
        · intro e
          simp only [Value.ownBlock, Option.some.injEq] at e
          rcases hg with h4 | h4
          · have := (own.lt _ h4).2; omega
          · omega

/-- A number of a node written. -/
theorem St.set {w : World} {l : List Kn} {d : List Nd} {g c : Nat} (i j : Nat) (u : Int) (f : Kn → Kn) (hf : ∀ x, (f x).ns = x.ns)
    (hT : wb.heap.size ≤ T) (hTB : T < B) (hBt : Bt < B) (hBl : Bl < B) (h1 : Bt ≠ T) (h2 : Bl ≠ T) (hwb : wb.heap.size ≤ B)
    (below : Below wb.heap.size wb w) (size : B ≤ w.heap.size) (bt : w.cell? ⟨Bt, 0, none⟩ = some (.pointer (some ⟨T, 0, none⟩)))
    (bl : w.cell? ⟨Bl, 0, none⟩ = some (.func (.func 31) #[] #[.pointer (some ⟨Bt, 0, none⟩), .pointer (some ⟨Bl, 0, none⟩)]))
    (hd : d.map Nd.x = l) (tt : w.cell? ⟨T, 0, none⟩ = some (.slice (some ⟨g, 0, none⟩) l.length c)) (tf : w.frozen? ⟨T, 0, none⟩ = false) (own : w.ownsRow B 58 9 (.slice (some ⟨g, 0, none⟩) l.length c) l.length (cellsN d)) (names : NamesAt w T (some g) d)
    (hi : i < l.length) (hj : j < 9) (hu : ∀ x : Nd, (⟨f x.x, x.p, x.n, x.c⟩ : Nd).cells = x.cells.set j (.int .i64 u)) :
    St wb B T Bt Bl (w.setCell ⟨g, i * 9 + j, none⟩ (.int .i64 u)) (l.set i (f l[i])) := by
  have hgB := (own_bound own).1
  have hgw := (own_bound own).2.1
  have hcell : ∀ j' o, j' < B → (w.setCell ⟨g, i * 9 + j, none⟩ (.int .i64 u)).cell? ⟨j', o, none⟩ = w.cell? ⟨j', o, none⟩ := fun j' o hj' => by
    rw [World.cell?_setCell_other _ _ _ _ (fun e => by injection e with e1; omega)]
  have hld : d.length = l.length := by rw [← hd]; simp
  have hdi : l[i] = (d[i]'(by omega)).x := by simp [← hd]
  refine ⟨below.setCell (by simp; omega) _, by simpa using size, ?_, ?_, d.set i ⟨f (d[i]'(by omega)).x, (d[i]'(by omega)).p, (d[i]'(by omega)).n, (d[i]'(by omega)).c⟩, .slice (some ⟨g, 0, none⟩) l.length c, ?_, ?_, ?_, ?_, ?_⟩
  · rw [hcell _ _ hBt]; exact bt
  · rw [hcell _ _ hBl]; exact bl
  · rw [List.map_set, hd, hdi]
  · rw [hcell _ _ hTB]; exact tt
  · rw [World.frozen?_setCell]; exact tf
  · rw [List.length_set, cellsN_set d i j _ (.int .i64 u) (by omega) hj (hu _)]
    exact own_set own _ _ (by omega)
  · intro y hy
    have hin : ∀ y ∈ d, In mkI (w.setCell ⟨g, i * 9 + j, none⟩ (.int .i64 u)) y.p y.n y.c y.x.ns ∧ (y.n = 0 ∨ ∃ a, y.p = some a ∧ a.block ≠ T ∧ (some g : Option Nat) ≠ some a.block) := fun y hy => by
      obtain ⟨h3, h4⟩ := names y hy
      refine ⟨in_kept h3 (by simp) (fun b hn0 hb' => ?_), h4⟩
      obtain ⟨a, ha, haT, hag⟩ := h4.resolve_left hn0
      obtain rfl : b = a := by rw [ha] at hb'; exact (Option.some.inj hb').symm
      exact Below.heap_setCell _ _ _ _ (fun e => hag (by rw [e]))
    rcases List.mem_or_eq_of_mem_set hy with h3 | rfl
    · exact hin y h3
    · have := hin _ (List.getElem_mem (l := d) (n := i) (by omega))
      simp only [hf]
      exact this
theorem St.drew {w : World} {l : List Kn} (h : St wb B T Bt Bl w l) : St wb B T Bt Bl w.drew l := by
  obtain ⟨below, size, bt, bl, d, v, hd, tt, tf, own, names⟩ := h
  exact ⟨below.drew, size, bt, bl, d, v, hd, tt, tf, own.drew, names⟩
/-- A node's number may be written. -/
theorem St.write {w : World} {l : List Kn} (h : St wb B T Bt Bl w l) (hT : wb.heap.size ≤ T) (hTB : T < B) (hBt : Bt < B) (hBl : Bl < B) (h1 : Bt ≠ T) (h2 : Bl ≠ T) (hwb : wb.heap.size ≤ B)
    (i j : Nat) (f : Kn → Kn) (u : Int) (hi : i < l.length) (hj : j < 9) (hf : ∀ x, (f x).ns = x.ns) (hu : ∀ x : Nd, (⟨f x.x, x.p, x.n, x.c⟩ : Nd).cells = x.cells.set j (.int .i64 u)) :
    ∃ g c y, w.cell? ⟨T, 0, none⟩ = some (.slice (some ⟨g, 0, none⟩) l.length c) ∧ w.cell? ⟨g, i * 9 + j, none⟩ = some y ∧ w.frozen? ⟨g, i * 9 + j, none⟩ = false ∧ l.length ≤ c ∧
      St wb B T Bt Bl (w.setCell ⟨g, i * 9 + j, none⟩ (.int .i64 u)) (l.set i (f l[i])) := by
  obtain ⟨below, size, bt, bl, d, v, hd, tt, tf, own, names⟩ := h
  obtain ⟨g, c, rfl, _, _, hc, _⟩ := own_pos own (by omega)
  have hld : d.length = l.length := by rw [← hd]; simp
  have hcell : (cellsN d)[i * 9 + j]? = some ((d[i]'(by omega)).cells[j]'(by simpa [Nd.cells] using hj)) := by
    rw [cellsN_at d i j (by omega) hj]; simp
  exact ⟨g, c, _, tt, own_cell own _ _ hcell, own_frozen own _, hc, St.set i j u f hf hT hTB hBt hBl h1 h2 hwb below size bt bl hd tt tf own names hi hj hu⟩
end
end Go.Proofs.Ytcijjeflojaocaa
