/-
  Make, and how its tree lies for those that read it.
-/
import Derived.Test.YtcijjeflojaocaaLayB
import Derived.Laws.EntriesVeiled
namespace Go.Proofs.Ytcijjeflojaocaa
open Go.RowKit
set_option linter.unusedVariables false
set_option linter.unusedSimpArgs false

/-- A node's nine cells. -/
def KnAt (w : World) (g i : Nat) (x : Kn) (p : Option Addr) (n c : Nat) : Prop :=
  w.cell? ⟨g, i * 9, none⟩ = some (.int .i64 x.k) ∧ w.cell? ⟨g, i * 9 + 1, none⟩ = some (.int .i64 x.m) ∧ w.cell? ⟨g, i * 9 + 2, none⟩ = some (.int .i64 x.f) ∧
  w.cell? ⟨g, i * 9 + 3, none⟩ = some (.int .i64 x.t) ∧ w.cell? ⟨g, i * 9 + 4, none⟩ = some (.int .i64 x.up) ∧ w.cell? ⟨g, i * 9 + 5, none⟩ = some (.int .i64 x.first) ∧
  w.cell? ⟨g, i * 9 + 6, none⟩ = some (.int .i64 x.next) ∧ w.cell? ⟨g, i * 9 + 7, none⟩ = some (.slice p n c) ∧ w.cell? ⟨g, i * 9 + 8, none⟩ = some (.int .i64 x.deep)
/-- A tree as it lies. -/
def Arena (w : World) (T g c : Nat) (l : List Kn) : Prop :=
  w.cell? ⟨T, 0, none⟩ = some (.slice (some ⟨g, 0, none⟩) l.length c) ∧ l.length ≤ c ∧ 0 < l.length ∧ T < w.heap.size ∧ g < w.heap.size ∧
  ∀ i, (h : i < l.length) → ∃ p n cc, KnAt w g i l[i] p n cc ∧ In mkI w p n cc l[i].ns
theorem Arena.step {w w1 : World} {T g c : Nat} {l : List Kn} (h : Arena w T g c l) (hw : Below w.heap.size w w1) : Arena w1 T g c l := by
  obtain ⟨h1, h2, h3, h4, h5, h6⟩ := h
  refine ⟨(hw.cell h4).trans h1, h2, h3, Nat.lt_of_lt_of_le h4 hw.size, Nat.lt_of_lt_of_le h5 hw.size, fun i hi => ?_⟩
  obtain ⟨p, n, cc, ⟨a0, a1, a2, a3, a4, a5, a6, a7, a8⟩, hin⟩ := h6 i hi
  exact ⟨p, n, cc, ⟨(hw.cell (p := ⟨g, _, none⟩) h5).trans a0, (hw.cell (p := ⟨g, _, none⟩) h5).trans a1, (hw.cell (p := ⟨g, _, none⟩) h5).trans a2, (hw.cell (p := ⟨g, _, none⟩) h5).trans a3, (hw.cell (p := ⟨g, _, none⟩) h5).trans a4, (hw.cell (p := ⟨g, _, none⟩) h5).trans a5, (hw.cell (p := ⟨g, _, none⟩) h5).trans a6, (hw.cell (p := ⟨g, _, none⟩) h5).trans a7, (hw.cell (p := ⟨g, _, none⟩) h5).trans a8⟩, hin.step hw⟩
theorem arena_of_st {wb w : World} {B T Bt Bl : Nat} {l : List Kn} (h : St wb B T Bt Bl w l) (hTB : T < B) (hl : 0 < l.length) : ∃ g c, Arena w T g c l := by
  obtain ⟨below, size, bt, bl, d, v, hd, tt, tf, own, names⟩ := h
  obtain ⟨g, c, rfl, _, hg, hc, _⟩ := own_pos own hl
  have hld : d.length = l.length := by rw [← hd]; simp
  refine ⟨g, c, tt, hc, hl, by omega, hg, fun i hi => ?_⟩
  have hx : l[i] = (d[i]'(by omega)).x := by simp [← hd]
  have hcell := fun j (hj : j < 9) u (hu : (d[i]'(by omega)).cells[j]? = some u) => own_cell own (i * 9 + j) u (by rw [cellsN_at d i j (by omega) hj, hu])
  rw [hx]
  exact ⟨_, _, _, ⟨hcell 0 (by omega) _ rfl, hcell 1 (by omega) _ rfl, hcell 2 (by omega) _ rfl, hcell 3 (by omega) _ rfl, hcell 4 (by omega) _ rfl, hcell 5 (by omega) _ rfl, hcell 6 (by omega) _ rfl, hcell 7 (by omega) _ rfl, hcell 8 (by omega) _ rfl⟩, (names _ (List.getElem_mem _)).1⟩

/-- The tree's nodes. -/
def Br.knots (b : Br) : List Kn := b.all.map Ent.kn
theorem knots_length (b : Br) : b.knots.length = b.size := by simp [Br.knots, all_length]

set_option maxHeartbeats 1000000 in
theorem make_any (b : Br) (w : World) (hl : b.Lies w) (hf : b.Fits) (hs : b.size ≤ 1000) :
    Calls Try.prog 10 #[b.h.val] w fun e w' => ∃ T g c, e = .returned (.pointer (some ⟨T, 0, none⟩)) ∧ Arena w' T g c b.knots ∧ Below w.heap.size w w' := by
  obtain ⟨w0, e0, c0, l0, b0, s0⟩ := boxed w b hl
  have hst : St w0 (w.heap.size + 4) (w.heap.size + 1) (w.heap.size + 2) (w.heap.size + 3) (((w0.alloc (.cells #[.slice none 0 0] 53)).alloc (.cells #[.pointer (some ⟨w.heap.size + 1, 0, none⟩)] 28)).alloc (.cells #[.func (.func 31) #[] #[.pointer (some ⟨w.heap.size + 2, 0, none⟩), .pointer (some ⟨w.heap.size + 3, 0, none⟩)]] 54)) [] := by
    have hz1 : (w0.alloc (.cells #[.slice none 0 0] 53)).heap.size = w.heap.size + 2 := by simp; omega
    have hz2 : ((w0.alloc (.cells #[.slice none 0 0] 53)).alloc (.cells #[.pointer (some ⟨w.heap.size + 1, 0, none⟩)] 28)).heap.size = w.heap.size + 3 := by simp; omega
    have k1 := heap_alloc_new w0 (.cells #[.slice none 0 0] 53)
    have k2 := heap_alloc_new (w0.alloc (.cells #[.slice none 0 0] 53)) (.cells #[.pointer (some ⟨w.heap.size + 1, 0, none⟩)] 28)
    have k3 := heap_alloc_new ((w0.alloc (.cells #[.slice none 0 0] 53)).alloc (.cells #[.pointer (some ⟨w.heap.size + 1, 0, none⟩)] 28)) (.cells #[.func (.func 31) #[] #[.pointer (some ⟨w.heap.size + 2, 0, none⟩), .pointer (some ⟨w.heap.size + 3, 0, none⟩)]] 54)
    rw [s0] at k1
    rw [hz1] at k2
    rw [hz2] at k3
    have k2' := (heap_alloc_old (r := w.heap.size + 2) ((w0.alloc (.cells #[.slice none 0 0] 53)).alloc (.cells #[.pointer (some ⟨w.heap.size + 1, 0, none⟩)] 28)) (.cells #[.func (.func 31) #[] #[.pointer (some ⟨w.heap.size + 2, 0, none⟩), .pointer (some ⟨w.heap.size + 3, 0, none⟩)]] 54) (by omega)).trans k2
    have k1' := ((heap_alloc_old (r := w.heap.size + 1) ((w0.alloc (.cells #[.slice none 0 0] 53)).alloc (.cells #[.pointer (some ⟨w.heap.size + 1, 0, none⟩)] 28)) (.cells #[.func (.func 31) #[] #[.pointer (some ⟨w.heap.size + 2, 0, none⟩), .pointer (some ⟨w.heap.size + 3, 0, none⟩)]] 54) (by omega)).trans (heap_alloc_old (r := w.heap.size + 1) (w0.alloc (.cells #[.slice none 0 0] 53)) (.cells #[.pointer (some ⟨w.heap.size + 1, 0, none⟩)] 28) (by omega))).trans k1
    refine ⟨(((Below.refl _ _).alloc (Nat.le_refl _) _).alloc (by rw [hz1]; omega) _).alloc (by rw [hz2]; omega) _, by rw [World.size_alloc, hz2]; omega, ?_, ?_, [], .slice none 0 0, rfl, ?_, ?_, World.ownsRow_nil _ _ _ _, fun y hy => by cases hy⟩
    · rw [Lib.cell_of_heap k2']; rfl
    · rw [Lib.cell_of_heap k3]; rfl
    · rw [Lib.cell_of_heap k1']; rfl
    · exact frozen_of_row _ _ _ _ _ k1'
  have HX := Lib.hid (lay_any (wb := w0) (B := w.heap.size + 4) (T := w.heap.size + 1) (Bt := w.heap.size + 2) (Bl := w.heap.size + 3) (by omega) (by omega) (by omega) (by omega) (by omega) (by omega) (by omega) b (-1) 1 [] w.heap.size 0 _ hst c0 (by omega) l0 hf (by simpa using hs) (by omega) (by omega))
  have B0 := Lib.hid b0
  have HK : Hid (([] : List Kn) ++ (b.flat (-1) 1 (-1) 0 ([] : List Kn).length).map Ent.kn = b.knots) := Lib.hid (by
    rw [List.nil_append]; exact kn_flat_stop _ _ _ _ _ _ _)
  have HP : Hid (0 < b.knots.length) := Lib.hid (by rw [knots_length]; exact b.size_pos)
  have S0 := Lib.hid s0
  clear hst c0 l0 b0 hl hf hs s0
  generalize b.knots = L at *
  generalize b.h = h at *
  have hmf : ∀ (fn : Fn) (first cap : Array Value) (w : World), (Instr.makeFunc fn first cap).run Try.prog w = .ok (.func fn first cap) w := fun _ _ _ _ => rfl
  go_enter Try.func10, Try.ntmps10
  go_wp2_with fail
  rw [← e0]
  refine HX.out.mono ?_
  rintro e w2 ⟨rfl, hst2⟩
  have bt2 : w2.cell? ⟨w.heap.size + 1 + 1, 0, none⟩ = some (.pointer (some ⟨w.heap.size + 1, 0, none⟩)) := hst2.bt
  rw [HK.out] at hst2
  have HA := Lib.hid (arena_of_st hst2 (by omega) HP.out)
  have HB := Lib.hid (B0.out.trans (hst2.below.mono (by rw [S0.out]; omega)))
  clear hst2 e0 hmf
  go_wp2_with fail
  go_ret
  obtain ⟨g, c, ha⟩ := HA.out
  exact ⟨w.heap.size + 1, g, c, rfl, ha, HB.out⟩
end Go.Proofs.Ytcijjeflojaocaa
