/-
  Numbers that are known by their places: the closure of Linked, walked.
-/
import Derived.Test.YtagkpcnedccaiaaFT
import Derived.Maps.OwnSet
import Derived.Maps.OwnOps
namespace Go.Proofs.Ytagkpcnedccaiaa
open Go.RowKit Go.Maps
set_option maxRecDepth 20000
set_option linter.unusedVariables false
set_option linter.unusedSimpArgs false

theorem law3 : Keyed Try.prog 3 := int_keyed Try.underlying3
theorem zero3' (w : World) : (zeroValue 3).run Try.prog w = .ok (.int .i64 0) w := by kernel_rfl
/-- A number of 64 bits. -/
def W64 (x : Int) : Prop := -9223372036854775808 ≤ x ∧ x ≤ 9223372036854775807
theorem W64.wf {x : Int} (h : W64 x) : (Lit.int .i64 x).wf = true := WalkArith.wf_i64 (by unfold W64 at h; omega)
theorem W64.key {x : Int} (h : W64 x) : keyOf Try.prog 3 (.int .i64 x) = some (.int .i64 x) := keyOf_int_mk Try.underlying3 h.wf

/-- What the map says of the numbers that have places. -/
structure Pld (D : DataW Unit) (pl : List Int) : Prop where
 has : ∀ x, Maps.has D (.int .i64 x) = inI pl x
 at_ : ∀ (i : Nat) (x : Int), pl[i]? = some x → D.atKey (.int .i64 x) (.lit (.int .i64 0)) = .lit (.int .i64 (i : Nat))
 inj : ∀ (i j : Nat) (x : Int), pl[i]? = some x → pl[j]? = some x → i = j
theorem Pld.start : Pld (.map []) [] := ⟨fun x => rfl, fun i x h => by simp at h, fun i j x h => by simp at h⟩
theorem isKey (x : Int) : WideAt.IsKeyLit (.int .i64 x) := trivial
theorem lit_ne {x y : Int} (h : x ≠ y) : (Lit.int .i64 x) ≠ .int .i64 y := fun e => h (by injection e)
theorem Pld.snoc {D : DataW Unit} {pl : List Int} (h : Pld D pl) (hD : IsMap D) {x : Int} (hx : inI pl x = false) : Pld (D.put (.int .i64 x) (.lit (.int .i64 (pl.length : Nat)))) (pl ++ [x]) := by
 have hn : x ∉ pl := fun e => by rw [(inI_iff _ _).2 e] at hx; cases hx
 refine ⟨fun y => ?_, fun i y hi => ?_, fun i j y hi hj => ?_⟩
 ·by_cases hxy : y = x
  ·subst hxy
   rw [has_put_same hD (isKey y)]
   exact ((inI_iff _ _).2 (by simp)).symm
  ·rw [has_put_other (lit_ne hxy), h.has y]
   have : (y ∈ pl ++ [x]) ↔ y ∈ pl := by simp [hxy]
   cases h1 : inI pl y with
   | true => exact ((inI_iff _ _).2 (this.2 ((inI_iff _ _).1 h1))).symm
   | false =>
    cases h2 : inI (pl ++ [x]) y with
    | false => rfl
    | true => rw [(inI_iff _ _).2 (this.1 ((inI_iff _ _).1 h2))] at h1; cases h1
 ·by_cases hil : i < pl.length
  ·rw [List.getElem?_append_left hil] at hi
   have hxy : y ≠ x := fun e => hn (by rw [← e]; exact List.mem_of_getElem? hi)
   rw [atKey_put_other (lit_ne hxy)]
   exact h.at_ i y hi
  ·have : i = pl.length := by
    have := (List.getElem?_eq_some_iff.1 hi).1
    simp at this; omega
   subst this
   simp at hi
   subst hi
   exact atKey_put_same hD (isKey x) _ _
 ·have key : ∀ k, (pl ++ [x])[k]? = some y → (k < pl.length ∧ pl[k]? = some y) ∨ (k = pl.length ∧ y = x) := fun k hk => by
   by_cases hil : k < pl.length
   ·rw [List.getElem?_append_left hil] at hk; exact .inl ⟨hil, hk⟩
   ·right
    have : k = pl.length := by
     have := (List.getElem?_eq_some_iff.1 hk).1
     simp at this; omega
    subst this
    simp at hk
    exact ⟨rfl, hk.symm⟩
  rcases key i hi with ⟨a1, a2⟩ | ⟨a1, a2⟩ <;> rcases key j hj with ⟨b1, b2⟩ | ⟨b1, b2⟩
  ·exact h.inj i j y a2 b2
  ·exact absurd (by rw [← b2]; exact List.mem_of_getElem? a2) hn
  ·exact absurd (by rw [← a2]; exact List.mem_of_getElem? b2) hn
  ·omega

/-- The boxes of all and of places, the map and the row. -/
structure Pst (w0 w : World) (ab mbx mb : Nat) (v : Value) (pl : List Int) (n : Nat) (d : Nat → Nat) : Prop where
 below : Below w0.heap.size w0 w
 lo : w0.heap.size ≤ ab ∧ w0.heap.size ≤ mbx ∧ w0.heap.size ≤ mb
 box : w.heap[ab]? = some (.cells #[v] 61 (0, 0))
 mbox : w.heap[mbx]? = some (.cells #[.map (some mb)] 70 (0, 0))
 map : ∃ D : DataW Unit, w.ownsMap Try.prog 3 (plainElem Try.prog 3) mb pl.length D ∧ Pld D pl
 row : OwnI w w0.heap.size v (rowF n d)
theorem Pst.step {w0 w w1 : World} {ab mbx mb : Nat} {v : Value} {pl : List Int} {n : Nat} {d : Nat → Nat} (h : Pst w0 w ab mbx mb v pl n d) (hw : Below w.heap.size w w1) : Pst w0 w1 ab mbx mb v pl n d := by
 obtain ⟨D, h1, h2⟩ := h.map
 refine ⟨h.below.trans (hw.mono h.below.size), h.lo, heap_step h.box hw, heap_step h.mbox hw, ⟨D, ?_, h2⟩, h.row.step hw⟩
 obtain ⟨es, clock, e1, e2⟩ := h1
 exact ⟨es, clock, heap_step e1 hw, e2⟩
theorem Pst.below2 {w0 w w1 : World} {ab mbx mb : Nat} {v : Value} {pl : List Int} {n : Nat} {d : Nat → Nat} (h : Pst w0 w ab mbx mb v pl n d) {N : Nat} {W : World} (hN : N ≤ w.heap.size) (hB : Below N W w) (hw : Below w.heap.size w w1) : Below N W w1 := hB.trans (hw.mono hN)
theorem Pst.own_ne {w0 w : World} {ab mbx mb : Nat} {v : Value} {pl : List Int} {n : Nat} {d : Nat → Nat} (h : Pst w0 w ab mbx mb v pl n d) (g : Nat) (hg : v.ownBlock = some g) : g ≠ ab ∧ g ≠ mbx ∧ g ≠ mb := by
 obtain ⟨_, ⟨h0, _⟩ | ⟨g', c, cur, hv, _, hgg, _⟩⟩ := h.row
 ·rw [h0] at hg; simp [Value.ownBlock] at hg
 ·rw [hv] at hg
  simp only [Value.ownBlock, Option.some.injEq] at hg
  subst hg
  obtain ⟨D, ⟨es, clock, e1, _⟩, _⟩ := h.map
  refine ⟨?_, ?_, ?_⟩
  ·rintro rfl; rw [h.box] at hgg; injection hgg with hgg; injection hgg with _ hgg _; exact absurd hgg (by decide)
  ·rintro rfl; rw [h.mbox] at hgg; injection hgg with hgg; injection hgg with _ hgg _; exact absurd hgg (by decide)
  ·rintro rfl; rw [e1] at hgg; injection hgg with hgg; cases hgg

theorem box_set {w : World} {b : Nat} {v0 v : Value} {T : TypeId} (h : w.heap[b]? = some (.cells #[v0] T (0, 0))) : (w.setCell ⟨b, 0, none⟩ v).heap[b]? = some (.cells #[v] T (0, 0)) := by
 have := heap_lt h
 have h2 : w.heap[b] = Obj.cells #[v0] T (0, 0) := (Array.getElem?_eq_some_iff.1 h).2
 simp [World.setCell, this, Array.getElem_modify, h2]
theorem box_frozen {w : World} {b : Nat} {cs : Array Value} {T : TypeId} (h : w.heap[b]? = some (.cells cs T (0, 0))) (j : Nat) : w.frozen? ⟨b, j, none⟩ = false := by
 simp [World.frozen?, h]
theorem grown_at {w w' : World} {row : Option Nat} {b : Nat} {o : Obj} (hg : w.grownBy w' row) (h : w.heap[b]? = some o) (hne : row ≠ some b) : w'.heap[b]? = some o :=
 (hg.block b (heap_lt h) (fun e => hne e.symm)).trans h

/-- The map has one number more. -/
theorem Pst.mapped {w0 w w1 : World} {ab mbx mb : Nat} {v : Value} {pl : List Int} {n : Nat} {d : Nat → Nat} (h : Pst w0 w ab mbx mb v pl n d) {x : Int} {D : DataW Unit} (hm : w1.ownsMap Try.prog 3 (plainElem Try.prog 3) mb (pl.length + 1) D) (hp : Pld D (pl ++ [x])) (hg : w.grownBy w1 (some mb)) : Pst w0 w1 ab mbx mb v (pl ++ [x]) n d := by
 have hne : mb ≠ ab ∧ mb ≠ mbx := by
  obtain ⟨D0, ⟨es, clock, e1, _⟩, _⟩ := h.map
  refine ⟨?_, ?_⟩
  ·rintro rfl; rw [h.box] at e1; injection e1 with e1; cases e1
  ·rintro rfl; rw [h.mbox] at e1; injection e1 with e1; cases e1
 have at_ : ∀ b o, w.heap[b]? = some o → mb ≠ b → w1.heap[b]? = some o := fun b o hb hn => (hg.block b (heap_lt hb) (by simpa using fun e => hn e.symm)).trans hb
 refine ⟨h.below.grown hg h.below.size (fun k hk => by cases hk; exact h.lo.2.2), h.lo, at_ _ _ h.box hne.1, at_ _ _ h.mbox hne.2, ⟨D, by rw [List.length_append]; exact hm, hp⟩, ?_⟩
 obtain ⟨hl, h0 | ⟨g, c, cur, hv, hb, hgg, hr⟩⟩ := h.row
 ·exact ⟨hl, .inl h0⟩
 ·refine ⟨hl, .inr ⟨g, c, cur, hv, hb, at_ _ _ hgg ?_, hr⟩⟩
  have := h.own_ne g (by rw [hv]; rfl)
  exact this.2.2.symm
/-- The row has one number more, and lies in its box. -/
theorem Pst.longer {w0 w w2 : World} {ab mbx mb : Nat} {v v' : Value} {pl : List Int} {n : Nat} {d d' : Nat → Nat} (h : Pst w0 w ab mbx mb v pl n d) {n' : Nat} (hr : OwnI w2 w0.heap.size v' (rowF n' d')) (hg : w.grownBy w2 v.ownBlock) : Pst w0 (w2.setCell ⟨ab, 0, none⟩ v') ab mbx mb v' pl n' d' ∧ w2.cell? ⟨ab, 0, none⟩ = some v ∧ w2.frozen? ⟨ab, 0, none⟩ = false := by
 have hne : ∀ b, v.ownBlock = some b → b ≠ ab ∧ b ≠ mbx ∧ b ≠ mb := fun b hb => h.own_ne b hb
 have at_ : ∀ b o, w.heap[b]? = some o → v.ownBlock ≠ some b → w2.heap[b]? = some o := fun b o hb hn => (hg.block b (heap_lt hb) (fun e => hn e.symm)).trans hb
 have hbx := at_ _ _ h.box (fun e => (hne _ e).1 rfl)
 have hmbx := at_ _ _ h.mbox (fun e => (hne _ e).2.1 rfl)
 have hmm : mbx ≠ ab := by
  rintro e; have h1 := h.box; rw [← e, h.mbox] at h1; injection h1 with h1; injection h1 with _ h1 _; exact absurd h1 (by decide)
 have hb2 : Below w0.heap.size w0 w2 := h.below.grown hg h.below.size (fun k hk => (h.row.lt k hk).1)
 obtain ⟨D, ⟨es, clock, e1, e2⟩, hp⟩ := h.map
 have he := at_ _ _ e1 (fun e => (hne _ e).2.2 rfl)
 have hem : mb ≠ ab := by
  rintro rfl; rw [h.box] at e1; injection e1 with e1; cases e1
 have hga : ∀ g, v'.ownBlock = some g → g ≠ ab := fun g hgv => by
  rintro rfl
  obtain ⟨_, ⟨h0, _⟩ | ⟨g', c, cur, hv, _, hgg, _⟩⟩ := hr
  ·rw [h0] at hgv; simp [Value.ownBlock] at hgv
  ·rw [hv] at hgv
   simp only [Value.ownBlock, Option.some.injEq] at hgv
   subst hgv
   rw [hbx] at hgg; injection hgg with hgg; injection hgg with _ hgg _; exact absurd hgg (by decide)
 refine ⟨⟨hb2.setCell (p := ⟨ab, 0, none⟩) h.lo.1 v', h.lo, box_set hbx, (Below.heap_setCell w2 ⟨ab, 0, none⟩ v' mbx hmm).trans hmbx, ⟨D, ⟨es, clock, (Below.heap_setCell w2 ⟨ab, 0, none⟩ v' mb hem).trans he, e2⟩, hp⟩, ?_⟩, (cellH hbx 0).trans rfl, box_frozen hbx 0⟩
 exact hr.wr (fun e => hga _ e rfl) (Wr.set ab 0 v' w2)

/-- Boxes of pairs stay as they are. -/
def K48 (w w' : World) : Prop := ∀ (b : Nat) (cs : Array Value) (fr : Nat × Nat), w.heap[b]? = some (Obj.cells cs 48 fr) → w'.heap[b]? = some (Obj.cells cs 48 fr)
theorem K48.trans {a b c : World} (h : K48 a b) (k : K48 b c) : K48 a c := fun x cs fr e => k x cs fr (h x cs fr e)
theorem K48.grown {w w1 : World} {row : Option Nat} (hg : w.grownBy w1 row) (hr : ∀ (k : Nat) (cs : Array Value) (fr : Nat × Nat), row = some k → w.heap[k]? ≠ some (Obj.cells cs 48 fr)) : K48 w w1 := fun b cs fr hb =>
 (hg.block b (heap_lt hb) (fun e => hr b cs fr e.symm hb)).trans hb
theorem K48.below {w w1 : World} (h : Below w.heap.size w w1) : K48 w w1 := fun b cs fr hb => heap_step hb h
theorem K48.row {w w1 : World} {base n : Nat} {v : Value} {xs : List Value} (h : w.ownsRow base 3 1 v n xs) (hg : w.grownBy w1 v.ownBlock) : K48 w w1 := .grown hg fun k cs fr hk e => by
 obtain ⟨_, ⟨h0, _⟩ | ⟨g, c, cur, hv, _, hgg, _⟩⟩ := h
 ·rw [h0] at hk; simp [Value.ownBlock] at hk
 ·rw [hv] at hk
  simp only [Value.ownBlock, Option.some.injEq] at hk
  subst hk
  rw [hgg] at e; injection e with e; injection e with _ e _; exact absurd e (by decide)
theorem K48.set {w : World} {b j : Nat} {v : Value} {cs : Array Value} {T : TypeId} {fr : Nat × Nat} (h : w.heap[b]? = some (.cells cs T fr)) (hT : T ≠ 48) : K48 w (w.setCell ⟨b, j, none⟩ v) := fun x cs' fr' hx => by
 refine (Below.heap_setCell w ⟨b, j, none⟩ v x ?_).trans hx
 rintro rfl
 rw [h] at hx; injection hx with hx; injection hx with _ hx _; exact hT hx
theorem K48.map {w w1 : World} {b : Nat} {es : Array MapEntry} {c : Nat} (h : w.heap[b]? = some (.map es c)) (hg : w.grownBy w1 (some b)) : K48 w w1 := .grown hg fun k cs fr hk e => by
 cases hk; rw [h] at e; injection e with e; cases e
theorem own_shape {w : World} {b n : Nat} {v : Value} {d : Nat → Nat} (h : OwnI w b v (rowF (n + 1) d)) : ∃ g c, v = .slice (some ⟨g, 0, none⟩) (n + 1) c := by
 rcases h.slice with ⟨_, h2⟩ | ⟨g, c, h1, _⟩
 ·have := congrArg List.length h2; rw [rowF_len] at this; simp at this
 ·rw [rowF_len] at h1; exact ⟨g, c, h1⟩
def PlacePost (w w0 : World) (ab mbx mb : Nat) (v : Value) (pl : List Int) (d : Nat → Nat) (x : Int) (e : Ending) (w' : World) : Prop :=
 (inI pl x = true ∧ ∃ i : Nat, pl[i]? = some x ∧ e = .returned (.int .i64 i) ∧ Pst w0 w' ab mbx mb v pl pl.length d ∧ K48 w w') ∨
 (inI pl x = false ∧ ∃ v', e = .returned (.int .i64 (pl.length : Nat)) ∧ Pst w0 w' ab mbx mb v' (pl ++ [x]) (pl.length + 1) (updF d pl.length pl.length) ∧ K48 w w')
set_option maxHeartbeats 8000000 in
theorem place_any (w0 : World) (ab mbx mb : Nat) (v : Value) (pl : List Int) (d : Nat → Nat) (x : Int) (w : World) (h : Pst w0 w ab mbx mb v pl pl.length d) (hx : W64 x) (hn : pl.length ≤ 1000) :
  Calls Try.prog 33 #[.int .i64 x, .pointer (some ⟨mbx, 0, none⟩), .pointer (some ⟨ab, 0, none⟩)] w (PlacePost w w0 ab mbx mb v pl d x) := by
 obtain ⟨i3, hi3, hz0, hz1, hz2⟩ := info_parts info3
 have HS := Lib.hid h
 have hkey := hx.key
 obtain ⟨D, hmap, hpl⟩ := h.map
 have HD := Lib.hid hpl
 have hH := hpl.has x
 have m0 : w.cell? ⟨mbx, 0, none⟩ = some (.map (some mb)) := (cellH h.mbox 0).trans rfl
 have a0 : w.cell? ⟨ab, 0, none⟩ = some v := (cellH h.box 0).trans rfl
 have HM := Lib.hid hmap
 clear h hpl
 cases hin : inI pl x with
 | true =>
  obtain ⟨i, hi⟩ := List.mem_iff_getElem?.1 ((inI_iff _ _).1 hin)
  have HAT := Lib.hid (HD.out.at_ i x hi)
  rw [hin] at hH
  have HIN := Lib.hid hin
  have HI := Lib.hid hi
  clear hin hi hmap
  go_enter Try.func33, Try.ntmps33
  go_wp2_with (at_lookup; refine wpList_lookup_own_ok_int _ rfl _ _ 70 rfl 3 3 .i64 law3 Try.underlying70 Try.underlying3 (zero3' _) mb pl.length D rfl HM.out _ _ rfl hkey ?_; intro c hat hwc; rw [hH]; have hc : c = (i : Nat) := (by rw [HAT.out] at hat; injection hat with hat; injection hat with _ hat; exact hat.symm); subst hc; clear hat hwc)
  go_ret
  exact .inl ⟨HIN.out, i, HI.out, rfl, HS.out, fun _ _ _ h => h⟩
 | false =>
  rw [hin] at hH
  have HIN := Lib.hid hin
  have HISM := Lib.hid hmap.isMap
  have hwf : (Lit.int .i64 (pl.length : Nat)).wf = true := WalkArith.wf_i64 (by omega)
  obtain ⟨q, n, c, hv, hq⟩ : ∃ q n c, v = .slice q n c ∧ n = pl.length := by
   rcases HS.out.row.slice with ⟨h1, h2⟩ | ⟨g, c, h1, _⟩
   ·exact ⟨none, 0, 0, h1, by have := congrArg List.length h2; rw [rowF_len] at this; simpa using this.symm⟩
   ·exact ⟨_, _, c, h1, by rw [rowF_len]⟩
  subst hv
  subst hq
  clear hin hmap
  go_enter Try.func33, Try.ntmps33
  go_wp2_with (first
   | (at_lookup; refine wpList_lookup_own_ok_int _ rfl _ _ 70 rfl 3 3 .i64 law3 Try.underlying70 Try.underlying3 (zero3' _) mb pl.length D rfl HM.out _ _ rfl hkey ?_; intro cc hat hwc; rw [hH])
   | (at_mapUpdate; refine wpList_mapUpdate_own _ rfl _ _ _ 70 rfl 3 3 law3 Try.underlying70 _ mb pl.length _ rfl HM.out (by unfold maxLen; omega) _ _ _ rfl rfl hkey _ [] (plainElem_int Try.underlying3 hwf) ?_; intro w1 hown1 hgrow1; have HK1 : Hid (K48 w w1) := Lib.hid (by obtain ⟨es, clock, e1, _⟩ := HM.out; exact K48.map e1 hgrow1); have HS1 := Lib.hid (HS.out.mapped (x := x) hown1 (HD.out.snoc HISM.out HIN.out) hgrow1); have a1 : w1.cell? ⟨ab, 0, none⟩ = some (.slice q pl.length c) := (cellH HS1.out.box 0).trans rfl; have HA1 := Lib.hid (HS1.out.step ((Below.refl w1.heap.size w1).alloc (Nat.le_refl _) (.cells #[.int .i64 (pl.length : Nat)] 3))); have hrow : (w1.alloc (.cells #[.int .i64 (pl.length : Nat)] 3)).ownsRow w0.heap.size 3 1 (.slice q pl.length c) pl.length ((rowF pl.length d).map (Value.int .i64)) := (by have := HA1.out.row; unfold OwnI at this; rwa [rowF_len] at this); have HROW := Lib.hid hrow; clear hown1 hgrow1 hrow)
   | (at_builtin; refine wpList_append_own _ rfl _ _ 61 rfl w0.heap.size 3 i3 (.int .i64 0) 1 8 Try.underlying61 hi3 hz0 hz1 hz2 rfl (by omega) _ _ _ rfl HROW.out ⟨w1.heap.size, 0, none⟩ 1 1 [.int .i64 (pl.length : Nat)] rfl rfl (one_new _ _ _) (one_cell _ _) (by unfold maxLen; omega) (by omega) (by have := HA1.out.below.size; simp at this ⊢; omega) ?_; intro v' w2 hown hgrow _; have HO2 : Hid (OwnI w2 w0.heap.size v' (rowF (pl.length + 1) (updF d pl.length pl.length))) := Lib.hid (by rw [rowF_snoc, rowF_congr (e := d) (fun y hy => by simp only [updF]; rw [if_neg (by omega)])]; refine OwnI.snoc ?_; rw [rowF_len]; simpa [updF] using hown); obtain ⟨hfin, c2, f2⟩ := HA1.out.longer HO2.out hgrow; have HK2 : Hid (K48 w w2) := Lib.hid (HK1.out.trans ((K48.below ((Below.refl w1.heap.size w1).alloc (Nat.le_refl _) _)).trans (K48.row HROW.out hgrow))); have HBX : Hid (∃ cs fr, w2.heap[ab]? = some (.cells cs 61 fr)) := Lib.hid ⟨_, _, (hgrow.block ab (heap_lt HA1.out.box) (fun e => (HA1.out.own_ne _ e.symm).1 rfl)).trans HA1.out.box⟩; have HFIN := Lib.hid hfin; obtain ⟨g2, cc2, hv2⟩ := own_shape HO2.out; subst hv2; clear hown hgrow hfin HROW HA1 HS1)
   | go_in)
  go_ret
  exact .inr ⟨HIN.out, _, rfl, HFIN.out, HK2.out.trans (by obtain ⟨cs, fr, hb⟩ := HBX.out; exact K48.set hb (by decide))⟩
end Go.Proofs.Ytagkpcnedccaiaa
