/-
  What is linked (Linked), walked.
-/
import Derived.Test.YtagkpcnedccaiaaFU
import Derived.Deep.RegionHeld3
namespace Go.Proofs.Ytagkpcnedccaiaa
open Go.RowKit Go.Maps
set_option maxRecDepth 20000
set_option linter.unusedVariables false
set_option linter.unusedSimpArgs false

/-- Where numbers that pairs link lead. -/
structure Un (l : List P2) (pl : List Int) (r : Nat → Nat) : Prop where
 sound : ∀ (i j : Nat) (x y : Int), pl[i]? = some x → pl[j]? = some y → r i = r j → Cn l x y
 closed : ∀ p ∈ l, ∃ i j : Nat, pl[i]? = some p.1 ∧ pl[j]? = some p.2 ∧ r i = r j
theorem Un.start : Un [] [] id := ⟨fun i j x y h => by simp at h, fun p h => by simp at h⟩
def ext (N : Nat) (r : Nat → Nat) : Nat → Nat := fun y => if y = N then N else r y
theorem ext_lt {N : Nat} {r : Nat → Nat} {y : Nat} (h : y < N) : ext N r y = r y := by unfold ext; rw [if_neg (by omega)]
theorem rt_ext {N : Nat} {d r : Nat → Nat} (h : Rt N d r) : Rt (N + 1) (updF d N N) (ext N r) := fun x hx => by
 by_cases hxN : x = N
 ·subst hxN; left; simp [updF, ext]
 ·have hlt : x < N := by omega
  have hd := h.le hlt
  simp only [updF, if_neg hxN]
  rw [ext_lt hlt, ext_lt (show d x < N by omega)]
  exact h x hlt
theorem getE_lt {α : Type} {l : List α} {i : Nat} {x : α} (h : l[i]? = some x) : i < l.length := (List.getElem?_eq_some_iff.1 h).1
theorem snoc_get {α : Type} {l : List α} {i : Nat} {x y : α} (h : (l ++ [x])[i]? = some y) : (i < l.length ∧ l[i]? = some y) ∨ (i = l.length ∧ y = x) := by
 by_cases hil : i < l.length
 ·rw [List.getElem?_append_left hil] at h; exact .inl ⟨hil, h⟩
 ·have hi := getE_lt h
  simp at hi
  have : i = l.length := by omega
  subst this
  simp at h
  exact .inr ⟨rfl, h.symm⟩
theorem Un.place {l : List P2} {pl : List Int} {r d : Nat → Nat} (h : Un l pl r) (hr : Rt pl.length d r) {x : Int} : Un l (pl ++ [x]) (ext pl.length r) := by
 refine ⟨fun i j y z hi hj e => ?_, fun p hp => ?_⟩
 ·rcases snoc_get hi with ⟨a1, a2⟩ | ⟨a1, a2⟩ <;> rcases snoc_get hj with ⟨b1, b2⟩ | ⟨b1, b2⟩
  ·rw [ext_lt a1, ext_lt b1] at e; exact h.sound i j y z a2 b2 e
  ·rw [ext_lt a1, b1] at e
   have := (hr.root i a1).1
   simp [ext] at e; omega
  ·rw [ext_lt b1, a1] at e
   have := (hr.root j b1).1
   simp [ext] at e; omega
  ·rw [a2, b2]; exact Cn.refl _ _
 ·obtain ⟨i, j, h1, h2, h3⟩ := h.closed p hp
  have a1 := getE_lt h1
  have b1 := getE_lt h2
  exact ⟨i, j, by rw [List.getElem?_append_left a1]; exact h1, by rw [List.getElem?_append_left b1]; exact h2, by rw [ext_lt a1, ext_lt b1]; exact h3⟩
theorem Un.join {l : List P2} {pl : List Int} {r : Nat → Nat} (h : Un l pl r) {p : P2} {a b : Nat} (ha : pl[a]? = some p.1) (hb : pl[b]? = some p.2) : Un (l ++ [p]) pl (mrg r a b) := by
 have hsub : ∀ q ∈ l, q ∈ l ++ [p] := fun q hq => List.mem_append_left _ hq
 have hp : Cn (l ++ [p]) p.1 p.2 := Cn.pair (by simp)
 refine ⟨fun i j x y hi hj e => ?_, fun q hq => ?_⟩
 ·have key : ∀ i x, pl[i]? = some x → (r i = r a ∨ r i = r b) → Cn (l ++ [p]) x p.1 := fun i x hi hc => by
   rcases hc with hc | hc
   ·exact (h.sound i a x p.1 hi ha hc).sub hsub
   ·exact ((h.sound i b x p.2 hi hb hc).sub hsub).trans hp.symm
  unfold mrg at e
  by_cases c1 : r i = r a ∨ r i = r b
  ·by_cases c2 : r j = r a ∨ r j = r b
   ·exact (key i x hi c1).trans (key j y hj c2).symm
   ·rw [if_pos c1, if_neg c2] at e
    exfalso
    apply c2
    rcases Nat.le_total (r a) (r b) with hab | hab
    ·rw [Nat.min_eq_left hab] at e; exact .inl e.symm
    ·rw [Nat.min_eq_right hab] at e; exact .inr e.symm
  ·by_cases c2 : r j = r a ∨ r j = r b
   ·rw [if_neg c1, if_pos c2] at e
    exfalso
    apply c1
    rcases Nat.le_total (r a) (r b) with hab | hab
    ·rw [Nat.min_eq_left hab] at e; exact .inl e
    ·rw [Nat.min_eq_right hab] at e; exact .inr e
   ·rw [if_neg c1, if_neg c2] at e
    exact (h.sound i j x y hi hj e).sub hsub
 ·rcases List.mem_append.1 hq with hq | hq
  ·obtain ⟨i, j, h1, h2, h3⟩ := h.closed q hq
   exact ⟨i, j, h1, h2, mrg_eq h3 a b⟩
  ·simp only [List.mem_singleton] at hq; subst hq
   exact ⟨a, b, ha, hb, mrg_ab r a b⟩
theorem Un.iff {l : List P2} {pl : List Int} {r : Nat → Nat} (h : Un l pl r) (inj : ∀ (i j : Nat) (x : Int), pl[i]? = some x → pl[j]? = some x → i = j) {i j : Nat} {a b : Int} (ha : pl[i]? = some a) (hb : pl[j]? = some b) : r i = r j ↔ Cn l a b := by
 constructor
 ·exact h.sound i j a b ha hb
 ·intro hc
  have := (hc (fun z => ∃ k : Nat, pl[k]? = some z ∧ r k = r i) fun p hp => by
   obtain ⟨i', j', h1, h2, h3⟩ := h.closed p hp
   constructor
   ·rintro ⟨k, hk, e⟩
    exact ⟨j', h2, by rw [← h3, inj i' k _ h1 hk]; exact e⟩
   ·rintro ⟨k, hk, e⟩
    exact ⟨i', h1, by rw [h3, inj j' k _ h2 hk]; exact e⟩).1 ⟨i, ha, rfl⟩
  obtain ⟨k, hk, e⟩ := this
  rw [inj j k _ hb hk]; exact e.symm

/-- The whole of what Linked keeps. -/
structure Lin (w0 : World) (ab mbx mb : Nat) (l : List P2) (N : Nat) (qs : List (Nat × Int)) (v : Value) (pl : List Int) (d r : Nat → Nat) (w : World) : Prop where
 st : Pst w0 w ab mbx mb v pl pl.length d
 rt : Rt pl.length d r
 un : Un l pl r
 len : pl.length ≤ N
 qs : ∀ q ∈ qs, pl[q.1]? = some q.2
def LinE (w0 : World) (ab mbx mb : Nat) (l : List P2) (N : Nat) (qs : List (Nat × Int)) (w : World) : Prop := ∃ v pl d r, Lin w0 ab mbx mb l N qs v pl d r w
theorem LinE.step {w0 w w1 : World} {ab mbx mb : Nat} {l : List P2} {N : Nat} {qs : List (Nat × Int)} (h : LinE w0 ab mbx mb l N qs w) (hw : Below w.heap.size w w1) : LinE w0 ab mbx mb l N qs w1 := by
 obtain ⟨v, pl, d, r, h⟩ := h
 exact ⟨v, pl, d, r, h.st.step hw, h.rt, h.un, h.len, h.qs⟩
theorem LinE.below {w0 w : World} {ab mbx mb : Nat} {l : List P2} {N : Nat} {qs : List (Nat × Int)} (h : LinE w0 ab mbx mb l N qs w) : Below w0.heap.size w0 w := by
 obtain ⟨v, pl, d, r, h⟩ := h; exact h.st.below
theorem LinE.free {w0 w : World} {ab mbx mb : Nat} {l : List P2} {N : Nat} {qs : List (Nat × Int)} (h : LinE w0 ab mbx mb l N qs w) : LinE w0 ab mbx mb l N [] w := by
 obtain ⟨v, pl, d, r, h⟩ := h; exact ⟨v, pl, d, r, h.st, h.rt, h.un, h.len, fun q hq => by simp at hq⟩
theorem placeL (w0 : World) (ab mbx mb : Nat) (l : List P2) (N : Nat) (qs : List (Nat × Int)) (x : Int) (w : World) (h : LinE w0 ab mbx mb l N qs w) (hx : W64 x) (hN : N ≤ 900) :
  Calls Try.prog 33 #[.int .i64 x, .pointer (some ⟨mbx, 0, none⟩), .pointer (some ⟨ab, 0, none⟩)] w fun e w' => ∃ i : Nat, e = .returned (.int .i64 i) ∧ LinE w0 ab mbx mb l (N + 1) ((i, x) :: qs) w' ∧ K48 w w' := by
 obtain ⟨v, pl, d, r, h⟩ := h
 have hl := h.len
 refine (place_any w0 ab mbx mb v pl d x w h.st hx (by omega)).mono ?_
 rintro e w' (⟨_, i, hi, rfl, hst, hk⟩ | ⟨hno, v', rfl, hst, hk⟩)
 ·exact ⟨i, rfl, ⟨v, pl, d, r, hst, h.rt, h.un, by omega, fun q hq => by
   rcases List.mem_cons.1 hq with rfl | hq
   ·exact hi
   ·exact h.qs q hq⟩, hk⟩
 ·refine ⟨pl.length, rfl, ⟨v', pl ++ [x], _, ext pl.length r, by rw [List.length_append]; exact hst, by rw [List.length_append]; exact rt_ext h.rt, h.un.place h.rt, by simp; omega, fun q hq => ?_⟩, hk⟩
  rcases List.mem_cons.1 hq with rfl | hq
  ·simp
  ·have := h.qs q hq
   rw [List.getElem?_append_left (getE_lt this)]; exact this
/-- The row has been written. -/
theorem Pst.written {w0 w w2 : World} {ab mbx mb g n c : Nat} {pl : List Int} {d d' : Nat → Nat} (h : Pst w0 w ab mbx mb (.slice (some ⟨g, 0, none⟩) n c) pl n d) (hw : Wr g w w2) (hr : OwnI w2 w0.heap.size (.slice (some ⟨g, 0, none⟩) n c) (rowF n d')) : Pst w0 w2 ab mbx mb (.slice (some ⟨g, 0, none⟩) n c) pl n d' := by
 obtain ⟨h1, h2, h3⟩ := h.own_ne g rfl
 obtain ⟨D, ⟨es, clock, e1, e2⟩, hp⟩ := h.map
 exact ⟨hw.bel _ _ h.row.n.2.1 h.below, h.lo, (hw.blk ab h1.symm).trans h.box, (hw.blk mbx h2.symm).trans h.mbox, ⟨D, ⟨es, clock, (hw.blk mb h3.symm).trans e1, e2⟩, hp⟩, hr⟩

def JoinE (w0 : World) (ab mbx mb : Nat) (l : List P2) (N : Nat) (w : World) (e : Ending) (w' : World) : Prop := e = .returned (.tuple #[]) ∧ LinE w0 ab mbx mb l N [] w'
/-- The row in its box, of which two places are known. -/
theorem LinE.open2 {w0 w : World} {ab mbx mb : Nat} {l : List P2} {N : Nat} {i j : Nat} {x y : Int} (h : LinE w0 ab mbx mb l N [(i, x), (j, y)] w) :
  ∃ g c n, w.cell? ⟨ab, 0, none⟩ = some (.slice (some ⟨g, 0, none⟩) n c) ∧ i < n ∧ j < n ∧ n ≤ N ∧ ∃ pl d r, n = pl.length ∧ Lin w0 ab mbx mb l N [(i, x), (j, y)] (.slice (some ⟨g, 0, none⟩) n c) pl d r w := by
 obtain ⟨v, pl, d, r, h⟩ := h
 have hi := h.qs (i, x) (by simp)
 have hj := h.qs (j, y) (by simp)
 obtain ⟨k, hk⟩ : ∃ k, pl.length = k + 1 := ⟨pl.length - 1, by have := getE_lt hi; omega⟩
 have hrow := h.st.row
 rw [hk] at hrow
 obtain ⟨g, c, hv⟩ := own_shape hrow
 rw [← hk] at hv
 subst hv
 exact ⟨g, c, pl.length, (cellH h.st.box 0).trans rfl, getE_lt hi, getE_lt hj, h.len, pl, d, r, rfl, h⟩
theorem join_lin {w0 w : World} {ab mbx mb : Nat} {l : List P2} {N : Nat} {i j g n c : Nat} {p : P2} {pl : List Int} {d r : Nat → Nat} (hn : n = pl.length) (h : Lin w0 ab mbx mb l N [(j, p.2), (i, p.1)] (.slice (some ⟨g, 0, none⟩) n c) pl d r w) (hN : N ≤ 1000) :
  Calls Try.prog 28 #[.slice (some ⟨g, 0, none⟩) n c, .int .i64 i, .int .i64 j] w (JoinE w0 ab mbx mb (l ++ [p]) N w) := by
 subst hn
 have hi := h.qs (i, p.1) (by simp)
 have hj := h.qs (j, p.2) (by simp)
 have hl := h.len
 refine (join_any g c w0.heap.size pl.length r d i j w h.st.row h.rt (getE_lt hi) (getE_lt hj) (by omega)).mono ?_
 rintro e w' ⟨d', rfl, ho, hr, hw⟩
 exact ⟨rfl, _, pl, d', _, h.st.written hw ho, hr, h.un.join hi hj, h.len, fun q hq => by simp at hq⟩
set_option maxHeartbeats 8000000 in
theorem linked_any (q : Option Addr) (m c : Nat) (l : List P2) (a b : Int) (w : World) (h : PS w q m c l) (hm : m ≤ 60) (hwf : ∀ p ∈ l, W64 p.1 ∧ W64 p.2) (ha : W64 a) (hb : W64 b) :
  Calls Try.prog 19 #[.slice q m c, .int .i64 a, .int .i64 b] w fun e w' => ∃ o : Bool, e = .returned (.bool o) ∧ (o = true ↔ Cn l a b) ∧ Below w.heap.size w w' := by
 have hmm := @run_makeMap Try.prog
 have HP := Lib.hid h
 obtain ⟨hml, _⟩ := h
 have HML := Lib.hid hml
 have HWF := Lib.hid hwf
 have HA := Lib.hid ha
 have HB := Lib.hid hb
 clear hml hwf ha hb
 have HS0 : Hid (LinE w w.heap.size (w.heap.size + 1 + 1) (w.heap.size + 1) [] 0 [] (((w.alloc (.cells #[.slice none 0 0] 61)).alloc (.map #[] 0)).alloc (.cells #[.map (some (w.heap.size + 1))] 70))) := Lib.hid (by
  have e1 := heap_new w (.cells #[.slice none 0 0] 61)
  have b1 : Below w.heap.size w (w.alloc (.cells #[.slice none 0 0] 61)) := (Below.refl _ _).alloc (Nat.le_refl _) _
  have z1 : (w.alloc (.cells #[.slice none 0 0] 61)).heap.size = w.heap.size + 1 := by simp
  have m1 := World.ownsMap_made (H := Unit) (w.alloc (.cells #[.slice none 0 0] 61)) Try.prog 3 (plainElem Try.prog 3)
  generalize w.alloc (.cells #[.slice none 0 0] 61) = w1 at *
  rw [z1] at m1
  have b2 : Below w1.heap.size w1 (w1.alloc (.map #[] 0)) := (Below.refl _ _).alloc (Nat.le_refl _) _
  have z2 : (w1.alloc (.map #[] 0)).heap.size = w.heap.size + 1 + 1 := by simp [z1]
  have e2 := heap_step e1 b2
  have b12 : Below w.heap.size w (w1.alloc (.map #[] 0)) := b1.trans (b2.mono (by omega))
  generalize w1.alloc (.map #[] 0) = w2 at *
  have b3 : Below w2.heap.size w2 (w2.alloc (.cells #[.map (some (w.heap.size + 1))] 70)) := (Below.refl _ _).alloc (Nat.le_refl _) _
  have e3 := heap_new w2 (.cells #[.map (some (w.heap.size + 1))] 70)
  rw [z2] at e3
  refine ⟨.slice none 0 0, [], id, id, ⟨b12.trans (b3.mono (by omega)), ⟨Nat.le_refl _, by omega, by omega⟩, heap_step e2 b3, e3, ⟨.map [], m1.alloc _, Pld.start⟩, OwnI.nil _ _⟩, rt_id 0, Un.start, Nat.le_refl _, fun q hq => by simp at hq⟩)
 go_enter Try.func19, Try.ntmps19
 go_wp2_with fail
 generalize ((w.alloc (.cells #[.slice none 0 0] 61)).alloc (.map #[] 0)).alloc (.cells #[.map (some (w.heap.size + 1))] 70) = W0 at *
 obtain ⟨mbx, hmbx⟩ : ∃ mbx, mbx = w.heap.size + 1 + 1 := ⟨_, rfl⟩
 obtain ⟨mb, hmb⟩ : ∃ mb, mb = w.heap.size + 1 := ⟨_, rfl⟩
 obtain ⟨ab, hab⟩ : ∃ ab, ab = w.heap.size := ⟨_, rfl⟩
 rw [← hmbx] at HS0 ⊢
 rw [← hmb] at HS0 ⊢
 have HS1 : Hid (LinE w ab mbx mb [] 0 [] W0) := Lib.hid (by rw [hab]; exact HS0.out)
 rw [← hab]
 clear HS0 hmbx hmb
 have HAB := Lib.hid hab
 clear hab
 go_loopw [20] (fun i wr => ∃ (k : Nat), k ≤ m ∧ i = .int .i64 k ∧ Hid (LinE w ab mbx mb (l.take k) (2 * k) [] wr)) (fun i _ => m - (intOf i).toNat)
 case atStart => exact ⟨0, by omega, rfl, HS1⟩
 case round =>
  obtain ⟨k, hk, rfl, HL0⟩ := hrel
  clear HS1
  by_cases hlt : k < m
  ·obtain ⟨hmm', h0 | ⟨gb, o, rfl, hcb, hgb, hat⟩⟩ := HP.out
   ·omega
   clear hmm'
   obtain ⟨p, hp⟩ : ∃ p, l[k]? = some p := ⟨_, List.getElem?_eq_getElem (by have := HML.out; omega)⟩
   obtain ⟨v0, v1⟩ := hat k p hp
   rw [← HL0.out.below.cell (p := ⟨gb, _, none⟩) hgb] at v0 v1
   have hbz := HL0.out.below.size
   have hgb2 : gb < wr.heap.size := by omega
   have s1 : (0 : Int) ≤ (k : Int) := by omega
   have s2 : (k : Int) < (m : Int) := by omega
   have HTK := Lib.hid (take_snoc hp)
   have HW1 := Lib.hid (HWF.out p (List.mem_of_getElem? hp)).1
   have HW2 := Lib.hid (HWF.out p (List.mem_of_getElem? hp)).2
   have HL1 := Lib.hid (HL0.out.step ((Below.refl wr.heap.size wr).alloc (Nat.le_refl _) (.cells #[.int .i64 p.1, .int .i64 p.2] 48)))
   have HBX := Lib.hid (heap_new wr (.cells #[.int .i64 p.1, .int .i64 p.2] 48))
   have HK2 : Hid (2 * k + 1 + 1 ≤ 900) := Lib.hid (by omega)
   clear hp hat
   go_wp2_with fail
   obtain ⟨B, hB⟩ : ∃ B, B = wr.heap.size := ⟨_, rfl⟩
   rw [← hB] at HBX ⊢
   clear v0 v1 hgb2 hbz hB
   generalize wr.alloc (.cells #[.int .i64 p.1, .int .i64 p.2] 48) = W1 at *
   have c0 : W1.cell? ⟨B, 0, none⟩ = some (.int .i64 p.1) := (cellH HBX.out 0).trans rfl
   have c1 : W1.cell? ⟨B, 1, none⟩ = some (.int .i64 p.2) := (cellH HBX.out 1).trans rfl
   have HL1d := Lib.hid (HL1.out.step (Below.refl W1.heap.size W1).drew)
   have HBXd : Hid (W1.drew.heap[B]? = some (.cells #[.int .i64 p.1, .int .i64 p.2] 48 (0, 0))) := HBX
   go_region_held3 (fun w' => w'.cell? ⟨B, 0, none⟩ = some (.int .i64 p.1) ∧ w'.cell? ⟨B, 1, none⟩ = some (.int .i64 p.2)) (first | exact ⟨c0, c1⟩ | exact ⟨d0, d1⟩ | exact ⟨e0, e1⟩ | go_keep) (first
    | (go_at_call 33; have hx := HL2.out; clear hx; refine (placeL w ab mbx mb _ _ _ p.2 _ HL2.out HW2.out (by have := HK2.out; omega)).mono ?_; rintro e w3 ⟨j, rfl, hl3, hk3⟩; have HL3 := Lib.hid hl3; have HBX3 := Lib.hid (hk3 _ _ _ HBX2.out); have e0 : w3.cell? ⟨B, 0, none⟩ = some (.int .i64 p.1) := (cellH HBX3.out 0).trans rfl; have e1 : w3.cell? ⟨B, 1, none⟩ = some (.int .i64 p.2) := (cellH HBX3.out 1).trans rfl; clear hl3 hk3)
    | (go_at_call 33; refine (placeL w ab mbx mb _ _ _ p.1 _ HL1d.out HW1.out (by have := HK2.out; omega)).mono ?_; rintro e w2 ⟨i, rfl, hl2, hk2⟩; have HL2 := Lib.hid hl2; have HBX2 := Lib.hid (hk2 _ _ _ HBXd.out); have d0 : w2.cell? ⟨B, 0, none⟩ = some (.int .i64 p.1) := (cellH HBX2.out 0).trans rfl; have d1 : w2.cell? ⟨B, 1, none⟩ = some (.int .i64 p.2) := (cellH HBX2.out 1).trans rfl; clear hl2 hk2))
   obtain ⟨g, cg, n, hbx, hj1, hi1, hnN, pl, d, r, hnl, hlin⟩ := HL3.out.open2
   have HJ := Lib.hid (join_lin (p := p) hnl hlin (by have := HK2.out; omega))
   clear hnl hlin c0 c1 d0 d1 e0 e1 hj1 hi1 hnN
   go_wp2_with (go_at_call 28; refine HJ.out.mono ?_; rintro e w4 ⟨rfl, hl4⟩; have HL4 := Lib.hid hl4; clear hl4)
   go_roundw
   case rel => exact ⟨k + 1, by omega, by go_num, Lib.hid (by rw [HTK.out]; exact HL4.out)⟩
   case measure => simp [intOf]; omega
  ·have hkm : k = m := by omega
   have HL1 : Hid (LinE w ab mbx mb l (2 * m) [] wr) := Lib.hid (by have := HL0.out; rwa [hkm, HML.out, List.take_length, ← HML.out] at this)
   clear hkm
   go_wp2_with (first
    | (go_at_call 33; have hx := HL2.out; clear hx; refine (placeL w ab mbx mb _ _ _ b _ HL2.out HB.out (by omega)).mono ?_; rintro e w3 ⟨j, rfl, hl3, hk3⟩; have HL3 := Lib.hid hl3; clear hl3 hk3)
    | (go_at_call 33; refine (placeL w ab mbx mb _ _ _ a _ HL1.out HA.out (by omega)).mono ?_; rintro e w2 ⟨i, rfl, hl2, hk2⟩; have HL2 := Lib.hid hl2; clear hl2 hk2))
   obtain ⟨g, cg, n, hbx, hj1, hi1, hnN, pl, d, r, hnl, hlin⟩ := HL3.out.open2
   have HLIN := Lib.hid hlin
   have HNL := Lib.hid hnl
   have hne := hlin.st.own_ne g rfl
   have HL1a := Lib.hid (least_any g cg w.heap.size n r d i w3.drew (by have := hlin.st.row.step (Below.refl w3.heap.size w3).drew; rwa [← hnl] at this) (by have := hlin.rt; rwa [← hnl] at this) hi1 (by omega))
   have HIFF : Hid (r i = r j ↔ Cn l a b) := Lib.hid (hlin.un.iff (by obtain ⟨D, _, hp⟩ := hlin.st.map; exact hp.inj) (hlin.qs (i, a) (by simp)) (hlin.qs (j, b) (by simp)))
   have hab1 : ab ≠ g := fun e => hne.1 e.symm
   have HBL := Lib.hid hlin.st.below
   have hg0 : w.heap.size ≤ g := hlin.st.row.n.2.1
   clear hlin hnl hne
   have f0 : w3.drew.cell? ⟨ab, 0, none⟩ = some (.slice (some ⟨g, 0, none⟩) n cg) := hbx
   go_region_held3 (fun w' => w'.cell? ⟨ab, 0, none⟩ = some (.slice (some ⟨g, 0, none⟩) n cg)) (first | exact hbx | exact f0 | exact f1 | exact f2 | go_keep) (first
    | (go_at_call 29; have hx := HO1.out; clear hx; refine (least_any g cg w.heap.size n r _ j _ HO1.out HR1.out hj1 (by omega)).mono ?_; rintro e w5 ⟨d2, rfl, ho2, hr2, _, hw2⟩; have HW5 := Lib.hid (HW4.out.trans hw2); have f2 := (hw2.cell (j := 0) hab1).trans f1; clear ho2 hr2 hw2)
    | (go_at_call 29; refine HL1a.out.mono ?_; rintro e w4 ⟨d1, rfl, ho1, hr1, _, hw1⟩; have HO1 := Lib.hid ho1; have HR1 := Lib.hid hr1; have HW4 := Lib.hid hw1; have f1 := (hw1.cell (j := 0) hab1).trans f0; clear ho1 hr1 hw1))
   go_wp2_with fail
   go_ret
   refine ⟨_, rfl, ?_, HW5.out.bel _ _ hg0 HBL.out.drew⟩
   rw [← HIFF.out]
   simp
   omega
end Go.Proofs.Ytagkpcnedccaiaa
