/-
  What one map carries, and another one carries on: plain facts; three boxes of graphs.
-/
import Derived.Test.YtggoajpemffbiaaSfw
namespace Go.Proofs.Ytggoajpemffbiaa
open Go.RowKit
set_option maxRecDepth 20000
set_option linter.unusedVariables false
set_option linter.unusedSimpArgs false

theorem thAt_ge {k : List Int} {x : Int} (h : 0 ≤ thAt k x) : ∃ (i : Nat) (T : Nat), x = (i : Int) ∧ k[i]? = some (T : Int) ∧ thAt k x = (T : Int) := by
  by_cases h0 : 0 ≤ x ∧ x < k.length
  · obtain ⟨i, rfl⟩ : ∃ i : Nat, x = (i : Int) := ⟨x.toNat, by omega⟩
    obtain ⟨y, hy⟩ : ∃ y, k[i]? = some y := ⟨_, List.getElem?_eq_getElem (by omega)⟩
    have e := thAt_in hy
    rw [e] at h ⊢
    obtain ⟨T, rfl⟩ : ∃ T : Nat, y = (T : Int) := ⟨y.toNat, by omega⟩
    exact ⟨i, T, rfl, hy, rfl⟩
  · rw [thAt_out h0] at h; omega
theorem thAt_mpd {k : List Int} {x : Int} (h : mpd k x = true) : thAt k x = mAt k x := by
  obtain ⟨i, y, rfl, hy, _⟩ := mpd_in h
  rw [thAt_in hy, mAt_at hy]
/-- An edge that is carried on lies where both maps lead. -/
theorem on_edge {E E2 E3 m k : List Int} {L L2 L3 : List P2} (h1 : CarP E L E2 L2 m) (h2 : CarP E2 L2 E3 L3 k) {o : Nat} {x : Int} (ho : m[o]? = some x) (h0 : 0 ≤ thAt k x) :
    ∃ (T e : Nat) (y : Int), thAt k x = (T : Int) ∧ E[o]? = some (e : Int) ∧ e < m.length ∧ (m.map (thAt k))[e]? = some y ∧ E3[T]? = some y := by
  obtain ⟨i, T, rfl, hk, hT⟩ := thAt_ge h0
  have hol := (List.getElem?_eq_some_iff.1 ho).1
  have hkl := (List.getElem?_eq_some_iff.1 hk).1
  obtain ⟨e, he⟩ : ∃ e, E[o]? = some e := ⟨_, List.getElem?_eq_getElem (by have := h1.ok.len; omega)⟩
  have hm := h1.ok.edge o _ e ho (by omega) he
  have h3 := h1.edge o _ e ho (by omega) he
  simp only [Int.toNat_natCast] at h3
  have h4 := h2.ok.edge i _ _ hk (by omega) h3
  have h5 := h2.edge i _ _ hk (by omega) h3
  simp only [Int.toNat_natCast] at h5
  obtain ⟨n, y, rfl, hn, _⟩ := mpd_in hm
  rw [mAt_at hn] at h3 h4 h5
  refine ⟨T, n, mAt k y, hT, he, (List.getElem?_eq_some_iff.1 hn).1, ?_, h5⟩
  rw [List.getElem?_map, hn, Option.map_some, thAt_mpd h4]
theorem Cn.map {l : List P2} {a b : Int} (h : Cn l a b) (f : Int → Int) : Cn (l.map fun p => (f p.1, f p.2)) (f a) (f b) := fun S hS => h (fun z => S (f z)) fun p hp => hS (f p.1, f p.2) (List.mem_map.2 ⟨p, hp, rfl⟩)
/-- A link that is carried on links what both maps lead to. -/
theorem on_link {E E2 E3 m k : List Int} {L L2 L3 : List P2} (h1 : CarP E L E2 L2 m) (h2 : CarP E2 L2 E3 L3 k) {p : P2} (hp : p ∈ L) :
    ∃ (i j : Nat) (x y : Int), p = ((i : Int), (j : Int)) ∧ i < m.length ∧ j < m.length ∧ (m.map (thAt k))[i]? = some x ∧ (m.map (thAt k))[j]? = some y ∧ (0 ≤ x → 0 ≤ y → Cn L3 x y) := by
  obtain ⟨ha, hb⟩ := h1.ok.link p hp
  obtain ⟨p1, p2⟩ := p
  obtain ⟨i, x, hi, hx, _⟩ := mpd_in ha
  obtain ⟨j, y, hj, hy, _⟩ := mpd_in hb
  simp only at hi hj
  subst hi
  subst hj
  refine ⟨i, j, thAt k x, thAt k y, rfl, (List.getElem?_eq_some_iff.1 hx).1, (List.getElem?_eq_some_iff.1 hy).1, by rw [List.getElem?_map, hx]; rfl, by rw [List.getElem?_map, hy]; rfl, fun h3 h4 => ?_⟩
  obtain ⟨i', T, rfl, hk, hT⟩ := thAt_ge h3
  obtain ⟨j', U, rfl, hk2, hU⟩ := thAt_ge h4
  have c1 : Cn L2 (i' : Int) (j' : Int) := by
    rw [← h1.link, puts_cn]
    have := Cn.pair (l := L.map (mpP m)) (p := mpP m ((i : Int), (j : Int))) (List.mem_map.2 ⟨_, hp, rfl⟩)
    unfold mpP at this
    simp only [mAt_at hx, mAt_at hy] at this
    exact this
  have c2 := c1.map (mAt k)
  rw [mAt_at hk, mAt_at hk2] at c2
  rw [hT, hU, ← h2.link, puts_cn]
  exact c2
def Gr.o (g : Gr) : Obj := .cells #[.slice g.qe g.ne g.ce, .slice g.ql g.nl g.cl, .slice g.qv g.nv g.cv] 25
structure Bx (w : World) (B : Nat) (g : Gr) : Prop where
  h : w.heap[B]? = some (.cells #[.slice g.qe g.ne g.ce, .slice g.ql g.nl g.cl, .slice g.qv g.nv g.cv] 25 (0, 0))
theorem Bx.step {w w1 : World} {B : Nat} {g : Gr} (h : Bx w B g) (hw : Below w.heap.size w w1) : Bx w1 B g := ⟨heap_step h.h hw⟩
theorem Bx.c {w : World} {B : Nat} {g : Gr} (h : Bx w B g) : w.cell? ⟨B, 0, none⟩ = some (.slice g.qe g.ne g.ce) ∧ w.cell? ⟨B, 1, none⟩ = some (.slice g.ql g.nl g.cl) ∧ w.cell? ⟨B, 2, none⟩ = some (.slice g.qv g.nv g.cv) := box3 h.h
structure Bx3 (w : World) (B C D : Nat) (g h i : Gr) : Prop where
  b : Bx w B g
  c : Bx w C h
  d : Bx w D i
theorem Bx3.step {w w1 : World} {B C D : Nat} {g h i : Gr} (H : Bx3 w B C D g h i) (hw : Below w.heap.size w w1) : Bx3 w1 B C D g h i := ⟨H.b.step hw, H.c.step hw, H.d.step hw⟩
theorem Bx3.cells {w : World} {B C D : Nat} {g h i : Gr} (H : Bx3 w B C D g h i) :
    (w.cell? ⟨B, 0, none⟩ = some (.slice g.qe g.ne g.ce) ∧ w.cell? ⟨B, 1, none⟩ = some (.slice g.ql g.nl g.cl) ∧ w.cell? ⟨B, 2, none⟩ = some (.slice g.qv g.nv g.cv)) ∧
    (w.cell? ⟨C, 0, none⟩ = some (.slice h.qe h.ne h.ce) ∧ w.cell? ⟨C, 1, none⟩ = some (.slice h.ql h.nl h.cl) ∧ w.cell? ⟨C, 2, none⟩ = some (.slice h.qv h.nv h.cv)) ∧
    (w.cell? ⟨D, 0, none⟩ = some (.slice i.qe i.ne i.ce) ∧ w.cell? ⟨D, 1, none⟩ = some (.slice i.ql i.nl i.cl) ∧ w.cell? ⟨D, 2, none⟩ = some (.slice i.qv i.nv i.cv)) := ⟨H.b.c, H.c.c, H.d.c⟩
def w3 (w : World) (g h i : Gr) : World := ((w.alloc (.cells #[.slice g.qe g.ne g.ce, .slice g.ql g.nl g.cl, .slice g.qv g.nv g.cv] 25)).alloc (.cells #[.slice h.qe h.ne h.ce, .slice h.ql h.nl h.cl, .slice h.qv h.nv h.cv] 25)).alloc (.cells #[.slice i.qe i.ne i.ce, .slice i.ql i.nl i.cl, .slice i.qv i.nv i.cv] 25)
theorem w3_in (w : World) (g h i : Gr) : Bx3 (w3 w g h i) w.heap.size (w.heap.size + 1) (w.heap.size + 1 + 1) g h i ∧ Below w.heap.size w (w3 w g h i) := by
  have b1 : Below w.heap.size w (w.alloc (.cells #[.slice g.qe g.ne g.ce, .slice g.ql g.nl g.cl, .slice g.qv g.nv g.cv] 25)) := (Below.refl _ _).alloc (Nat.le_refl _) _
  have e1 := heap_new w (.cells #[.slice g.qe g.ne g.ce, .slice g.ql g.nl g.cl, .slice g.qv g.nv g.cv] 25)
  have z1 : (w.alloc (.cells #[.slice g.qe g.ne g.ce, .slice g.ql g.nl g.cl, .slice g.qv g.nv g.cv] 25)).heap.size = w.heap.size + 1 := by simp
  unfold w3
  generalize w.alloc (.cells #[.slice g.qe g.ne g.ce, .slice g.ql g.nl g.cl, .slice g.qv g.nv g.cv] 25) = w1 at *
  have b2 : Below w1.heap.size w1 (w1.alloc (.cells #[.slice h.qe h.ne h.ce, .slice h.ql h.nl h.cl, .slice h.qv h.nv h.cv] 25)) := (Below.refl _ _).alloc (Nat.le_refl _) _
  have e2 := heap_new w1 (.cells #[.slice h.qe h.ne h.ce, .slice h.ql h.nl h.cl, .slice h.qv h.nv h.cv] 25)
  have z2 : (w1.alloc (.cells #[.slice h.qe h.ne h.ce, .slice h.ql h.nl h.cl, .slice h.qv h.nv h.cv] 25)).heap.size = w1.heap.size + 1 := by simp
  generalize w1.alloc (.cells #[.slice h.qe h.ne h.ce, .slice h.ql h.nl h.cl, .slice h.qv h.nv h.cv] 25) = w2 at *
  have b3 : Below w2.heap.size w2 (w2.alloc (.cells #[.slice i.qe i.ne i.ce, .slice i.ql i.nl i.cl, .slice i.qv i.nv i.cv] 25)) := (Below.refl _ _).alloc (Nat.le_refl _) _
  have e3 := heap_new w2 (.cells #[.slice i.qe i.ne i.ce, .slice i.ql i.nl i.cl, .slice i.qv i.nv i.cv] 25)
  rw [z1] at e2
  rw [z2, z1] at e3
  exact ⟨⟨⟨heap_step (heap_step e1 b2) b3⟩, ⟨heap_step e2 b3⟩, ⟨e3⟩⟩, b1.trans ((b2.trans (b3.mono (by omega))).mono (by omega))⟩
end Go.Proofs.Ytggoajpemffbiaa
