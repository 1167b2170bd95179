/-
  The document's rows: all parts, in order.
-/
import Derived.Test.YtcijjeflojaocaaSize
namespace Go.Proofs.Ytcijjeflojaocaa
open Go.RowKit
set_option linter.unusedVariables false
set_option linter.unusedSimpArgs false

theorem own_lit {w : World} {base g E size n : Nat} {cs : Array Value} (hg : w.heap[g]? = some (.cells cs E (0, 0))) (hb : base ≤ g) (hlen : cs.size = n * size) (hm : n ≤ maxLen) :
    w.ownsRow base E size (.slice (some ⟨g, 0, none⟩) n n) n cs.toList := by
  refine ⟨by simpa using hlen, .inr ⟨g, n, cs, rfl, hb, hg, Nat.le_refl _, hm, hlen, ?_⟩⟩
  rw [← hlen]; exact List.take_of_length_le (by simp)

/-- A row's cells. -/
def rowCells (e : Ent) : List Value := [.int .i64 e.b.h.k, .int .i64 e.b.h.m, .int .i64 e.b.h.f, .int .i64 e.b.h.t, .slice e.b.h.np e.b.h.nn e.b.h.nc, .slice e.b.h.kp e.b.h.kn e.b.h.kc, .int .i64 e.up, .int .i64 e.deep]
def cellsR : List Ent → List Value
  | [] => []
  | e :: r => rowCells e ++ cellsR r
theorem cellsR_append (a b : List Ent) : cellsR (a ++ b) = cellsR a ++ cellsR b := by
  induction a with
  | nil => rfl
  | cons x r ih => simp [cellsR, ih]
theorem cellsR_length (l : List Ent) : (cellsR l).length = l.length * 8 := by
  induction l with
  | nil => rfl
  | cons x r ih => simp [cellsR, rowCells, ih]; omega
theorem cellsR_one (l : List Ent) : ∀ u ∈ cellsR l, u.oneCell' = true := by
  induction l with
  | nil => intro u h; cases h
  | cons x r ih =>
    intro u h
    simp only [cellsR, List.mem_append] at h
    rcases h with h | h
    · simp only [rowCells, List.mem_cons, List.not_mem_nil, or_false] at h
      rcases h with rfl | rfl | rfl | rfl | rfl | rfl | rfl | rfl <;> rfl
    · exact ih u h
/-- Two rows of entries that differ in what a row does not bear. -/
theorem flats_append (a b : List Br) (up : Nat) (deep : Int) (stop m : Nat) : ∃ l, cellsR l = cellsR (flats up deep stop m a) ∧ cellsR (flats up deep stop m (a ++ b)) = cellsR l ++ cellsR (flats up deep stop (m + sizes a) b) := by
  induction a generalizing m with
  | nil => exact ⟨[], rfl, by simp [sizes, cellsR]⟩
  | cons x r ih =>
    obtain ⟨l, h1, h2⟩ := ih (m + x.size)
    refine ⟨_, rfl, ?_⟩
    simp only [List.cons_append, flats, cellsR_append]
    rw [h2, h1]
    simp only [sizes, List.append_assoc, Nat.add_assoc]
    congr 1
    rw [flat_eq, flat_eq]
    rfl
theorem cellsR_flats_append (a b : List Br) (up : Nat) (deep : Int) (stop m : Nat) : cellsR (flats up deep stop m (a ++ b)) = cellsR (flats up deep stop m a) ++ cellsR (flats up deep stop (m + sizes a) b) := by
  obtain ⟨l, h1, h2⟩ := flats_append a b up deep stop m
  rw [h2, h1]
theorem cellsR_flat (b : Br) (up deep next next' : Int) (stop stop' n : Nat) : cellsR (b.flat up deep next stop n) = cellsR (b.flat up deep next' stop' n) := by
  rw [flat_eq, flat_eq]; rfl

theorem cellsR_flats_stop (ks : List Br) (up : Nat) (deep : Int) (stop stop' m : Nat) : cellsR (flats up deep stop m ks) = cellsR (flats up deep stop' m ks) := by
  induction ks generalizing m with
  | nil => rfl
  | cons x r ih => simp only [flats, cellsR_append]; rw [ih, cellsR_flat]
theorem info43 : (Try.prog.info? 43).map (fun i => (i.zero, i.size, i.bytes)) = some (some (.agg #[.int .i64 0, .int .i64 0, .int .i64 0, .int .i64 0, .slice none 0 0, .slice none 0 0, .int .i64 0, .int .i64 0]), 8, 96) := by kernel_rfl
theorem info3 : (Try.prog.info? 3).map (fun i => (i.zero, i.size, i.bytes)) = some (some (.int .i64 0), 1, 8) := by kernel_rfl
theorem info25 : (Try.prog.info? 25).map (fun i => (i.zero, i.size, i.bytes)) = some (some (.agg #[.int .i64 0, .int .i64 0, .int .i64 0, .int .i64 0, .slice none 0 0, .slice none 0 0]), 6, 80) := by kernel_rfl
theorem info58 : (Try.prog.info? 58).map (fun i => (i.zero, i.size, i.bytes)) = some (some (.agg #[.int .i64 0, .int .i64 0, .int .i64 0, .int .i64 0, .int .i64 0, .int .i64 0, .int .i64 0, .slice none 0 0, .int .i64 0]), 9, 88) := by kernel_rfl
theorem own_pos {w : World} {base E size n : Nat} {v : Value} {xs : List Value} (h : w.ownsRow base E size v n xs) (hn : 0 < n) : ∃ g c, v = .slice (some ⟨g, 0, none⟩) n c ∧ base ≤ g ∧ g < w.heap.size ∧ n ≤ c ∧ c ≤ maxLen := by
  rcases h.2 with ⟨_, h0⟩ | ⟨g, c, cur, rfl, hg, hh, hle, hm, _⟩
  · omega
  · exact ⟨g, c, rfl, hg, (Array.getElem?_eq_some_iff.1 hh).1, hle, hm⟩
theorem own_news {w : World} {base E size n c g : Nat} {xs : List Value} (h : w.ownsRow base E size (.slice (some ⟨g, 0, none⟩) n c) n xs) : ∀ j u, xs[j]? = some u → w.cell? ((⟨g, 0, none⟩ : Addr).add j) = some u := fun j u hj => World.ownsRow.cells h (g := g) rfl j u hj

theorem own_base {w : World} {base base' E size n : Nat} {v : Value} {xs : List Value} (h : w.ownsRow base E size v n xs) (hb : base' ≤ base) : w.ownsRow base' E size v n xs := by
  refine ⟨h.1, ?_⟩
  rcases h.2 with h0 | ⟨g, c, cur, hv, hg, r⟩
  · exact .inl h0
  · exact .inr ⟨g, c, cur, hv, Nat.le_trans hb hg, r⟩
theorem own_below {w1 : World} {N base E size n : Nat} {v : Value} {xs : List Value} (h : w1.ownsRow base E size v n xs) (hN : N ≤ base) : ∀ k, v.ownBlock = some k → N ≤ k := fun k hk => Nat.le_trans hN (h.lt k hk).1

set_option maxHeartbeats 1000000 in
theorem rows_any (b : Br) : ∀ (up deep : Int) (n : Nat) (w : World), b.Lies w → b.size + n ≤ 1000 → 0 ≤ deep → deep + b.size ≤ 2000 →
    Calls Try.prog 33 #[b.h.val, .int .i64 up, .int .i64 deep, .int .i64 n] w fun e w' => ∃ v, e = .returned v ∧ w'.ownsRow w.heap.size 43 8 v b.size (cellsR (b.flat up deep 0 0 n)) ∧ Below w.heap.size w w' := by
  obtain ⟨i0, hi0, hy0, hy1, hy2⟩ := info_parts info43
  induction b using Br.ind with
  | hP h ks ih =>
    intro up deep n w hl hsz hdeep hdeep2
    have hf : (Br.mk h ks).flat up deep 0 0 n = ⟨.mk h ks, up, deep, 0, n, 0⟩ :: flats n (deep + 1) (n + (sizes ks + 1)) (n + 1) ks := by simp only [Br.flat]
    rw [hf]
    simp only [Br.size] at hsz hdeep2
    obtain ⟨w0, e0, c0, l0, b0, s0⟩ := boxed w _ hl
    obtain ⟨_, hkids, hall⟩ := (lies_iff _ _).1 l0
    simp only [Br.h, Br.ks, Br.size] at e0 c0 hkids hall ⊢
    clear hf
    obtain ⟨hk, hm, hf, ht, np, nn, nc, ns, kp, kn, kc⟩ := h
    have hkn : kn = ks.length := hkids.1
    subst hkn
    have hlen := sizes_len ks
    have HK := Lib.hid hkids
    have HL := Lib.hid hall
    have B0 := Lib.hid b0
    have C0 := Lib.hid c0
    have HI := Lib.hid ih
    have S0 := Lib.hid s0
    clear hkids hall b0 c0 ih hl l0 s0
    go_enter Try.func33, Try.ntmps33
    go_wp2
    have hown1 : ((w.alloc (.cells #[.int .i64 hk, .int .i64 hm, .int .i64 hf, .int .i64 ht, .slice np nn nc, .slice kp ks.length kc] 25)).alloc (.cells #[.int .i64 hk, .int .i64 hm, .int .i64 hf, .int .i64 ht, .slice np nn nc, .slice kp ks.length kc, .int .i64 up, .int .i64 deep] 43)).ownsRow w0.heap.size 43 8 (.slice (some ⟨w.heap.size + 1, 0, none⟩) 1 1) 1 [.int .i64 hk, .int .i64 hm, .int .i64 hf, .int .i64 ht, .slice np nn nc, .slice kp ks.length kc, .int .i64 up, .int .i64 deep] := by
      have h1 := heap_alloc_new (w.alloc (.cells #[.int .i64 hk, .int .i64 hm, .int .i64 hf, .int .i64 ht, .slice np nn nc, .slice kp ks.length kc] 25)) (.cells #[.int .i64 hk, .int .i64 hm, .int .i64 hf, .int .i64 ht, .slice np nn nc, .slice kp ks.length kc, .int .i64 up, .int .i64 deep] 43)
      simp only [World.size_alloc] at h1
      exact own_lit h1 (by rw [S0.out]; omega) rfl (by unfold maxLen; omega)
    have hb1 : Below w0.heap.size w0 ((w.alloc (.cells #[.int .i64 hk, .int .i64 hm, .int .i64 hf, .int .i64 ht, .slice np nn nc, .slice kp ks.length kc] 25)).alloc (.cells #[.int .i64 hk, .int .i64 hm, .int .i64 hf, .int .i64 ht, .slice np nn nc, .slice kp ks.length kc, .int .i64 up, .int .i64 deep] 43)) := by
      rw [e0]; exact (Below.refl _ _).alloc (Nat.le_refl _) _
    have hz1 := hb1.size
    generalize (w.alloc (.cells #[.int .i64 hk, .int .i64 hm, .int .i64 hf, .int .i64 ht, .slice np nn nc, .slice kp ks.length kc] 25)).alloc (.cells #[.int .i64 hk, .int .i64 hm, .int .i64 hf, .int .i64 ht, .slice np nn nc, .slice kp ks.length kc, .int .i64 up, .int .i64 deep] 43) = w1 at *
    have HO1 := Lib.hid hown1
    have HB1 := Lib.hid hb1
    clear hown1 hb1 e0
    go_loopw [9, 10] (fun v i wr => ∃ k m : Nat, k ≤ ks.length ∧ i = .int .i64 k ∧ m = sizes (ks.take k) + 1 ∧ wr.ownsRow w0.heap.size 43 8 v m ([.int .i64 hk, .int .i64 hm, .int .i64 hf, .int .i64 ht, .slice np nn nc, .slice kp ks.length kc, .int .i64 up, .int .i64 deep] ++ cellsR (flats n (deep + 1) 0 (n + 1) (ks.take k))) ∧ Below w0.heap.size w0 wr) (fun _ i _ => ks.length - (intOf i).toNat)
    case atStart => exact ⟨0, 1, by omega, rfl, by simp [sizes], by simpa [flats, cellsR] using HO1.out, HB1.out⟩
    case round =>
      obtain ⟨k, m, hk0, rfl, hm0, hown, hbe⟩ := hrel
      obtain ⟨_, _, _, _, _, a5⟩ := (C0.out.step (by have := S0.out; omega) hbe).box
      have hz := hbe.size
      by_cases hlt : k < ks.length
      · obtain ⟨b1, off, rfl, hcap, hb1, hkat⟩ : ∃ b0 off, kp = some ⟨b0, off, none⟩ ∧ ks.length ≤ kc ∧ b0 < wr.heap.size ∧ KidsAt wr b0 off ks := by
          rcases (HK.out.step hbe).2 with h0 | h1
          · omega
          · exact h1
        obtain ⟨c0, c1, c2, c3, c4, c5⟩ := hkat k hlt
        have hxl := (HL.out ks[k] (List.getElem_mem hlt)).step _ hbe
        have hts := sizes_take_succ hlt
        have htl := sizes_take_le ks (k + 1)
        have hp := ks[k].size_pos
        have hxi := HI.out ks[k] (List.getElem_mem hlt) n (deep + 1) (n + m) wr hxl (by omega) (by omega) (by omega)
        have hcells : cellsR (flats n (deep + 1) 0 (n + 1) (ks.take (k + 1))) = cellsR (flats n (deep + 1) 0 (n + 1) (ks.take k)) ++ cellsR (ks[k].flat n (deep + 1) 0 0 (n + m)) := by
          rw [List.take_succ_eq_append_getElem hlt, cellsR_flats_append]
          congr 1
          rw [hm0]
          simp only [flats, cellsR_append, cellsR, List.append_nil]
          rw [show n + 1 + sizes (ks.take k) = n + (sizes (ks.take k) + 1) by omega]
          exact cellsR_flat _ _ _ _ _ _ _ _
        have HN := Lib.hid hcells
        have HX := Lib.hid hxi
        have HM : Hid (m + ks[k].size = sizes (ks.take (k + 1)) + 1) := Lib.hid (by omega)
        have HO := Lib.hid hown
        have hmm : m + ks[k].size ≤ 1000 := by omega
        have hm1 : 1 ≤ m := by omega
        have hnm : n + m ≤ 1000 := by omega
        obtain ⟨g, c, rfl, _, hg, hgc, hgm⟩ := own_pos hown (by omega)
        have hlens : (cellsR (ks[k].flat n (deep + 1) 0 0 (n + m))).length = ks[k].size * 8 := by rw [cellsR_length, flat_length]
        have HLn := Lib.hid hlens
        have HOne := Lib.hid (cellsR_one (ks[k].flat n (deep + 1) 0 0 (n + m)))
        have HBE := Lib.hid hbe
        clear hm0 hcells hxi hown hkat hxl hts htl hlens hbe
        generalize cellsR (ks[k].flat n (deep + 1) 0 0 (n + m)) = nw at *
        generalize ks[k] = x at *
        generalize x.size = xs at *
        go_wp2_with fail
        refine HX.out.mono ?_
        rintro e w2 ⟨v2, rfl, hown2, hb2⟩
        obtain ⟨g2, c2', rfl, hg2, hg2', _, _⟩ := own_pos hown2 hp
        have hz2 := hb2.size
        have HO2 := Lib.hid hown2
        have HB2 := Lib.hid hb2
        clear hown2 hb2
        go_wp2_with (at_builtin; refine wpList_append_own _ rfl _ _ 30 rfl w0.heap.size 43 i0 _ 8 96 Try.underlying30 hi0 hy0 hy1 hy2 rfl (by omega) _ m _ rfl (row_step HO.out HB2.out) ⟨g2, 0, none⟩ xs c2' nw rfl HLn.out (own_news HO2.out) HOne.out (by unfold maxLen; omega) (by omega) (by omega) ?_)
        intro v3 w3 hown3 hgrow _
        have HB3 := Lib.hid ((HBE.out.trans (HB2.out.mono hz)).grown hgrow (by omega) (own_below HO.out (Nat.le_refl _)))
        have HO3 := Lib.hid hown3
        clear hown3 hgrow
        go_wp2_with fail
        go_roundw
        case rel => exact ⟨k + 1, m + xs, by omega, by go_num, HM.out, by rw [HN.out, ← List.append_assoc]; exact HO3.out, HB3.out⟩
        case measure => simp [intOf]; omega
      · have hkl : k = ks.length := by omega
        have HO := Lib.hid hown
        have HB := Lib.hid hbe
        have HM := Lib.hid hm0
        clear hown hbe hm0
        go_wp2_with fail
        go_ret
        refine ⟨_, rfl, ?_, B0.out.trans (HB.out.mono (by rw [S0.out]; omega))⟩
        have := HO.out
        rw [HM.out, hkl, List.take_length] at this
        simp only [cellsR, rowCells, Br.h, Br.size]
        have e : cellsR (flats n (deep + 1) (n + (sizes ks + 1)) (n + 1) ks) = cellsR (flats n (deep + 1) 0 (n + 1) ks) := cellsR_flats_stop _ _ _ _ _ _
        rw [e]
        exact own_base this (by rw [S0.out]; omega)

theorem refRows_any (b : Br) (w : World) (hl : b.Lies w) (hs : b.size ≤ 1000) :
    Calls Try.prog 11 #[b.h.val] w fun e w' => ∃ v, e = .returned v ∧ w'.ownsRow w.heap.size 43 8 v b.size (cellsR b.all) ∧ Below w.heap.size w w' := by
  obtain ⟨w0, e0, c0, l0, b0, s0⟩ := boxed w b hl
  have HX := Lib.hid (rows_any b (-1) 1 0 w0 l0 (by omega) (by omega) (by omega))
  have B0 := Lib.hid b0
  have S0 := Lib.hid s0
  clear c0 l0 b0 hl s0
  have HE : Hid (cellsR (b.flat (-1) 1 0 0 0) = cellsR b.all) := Lib.hid (cellsR_flat _ _ _ _ _ _ _ _)
  generalize cellsR (b.flat (-1) 1 0 0 0) = xs at *
  generalize b.h = h at *
  go_enter Try.func11, Try.ntmps11
  go_wp2_with fail
  rw [← e0]
  refine HX.out.mono ?_
  rintro e w2 ⟨v2, rfl, hown2, hb2⟩
  have HO2 := Lib.hid hown2
  have HB2 := Lib.hid hb2
  clear hown2 hb2 e0
  go_wp2_with fail
  go_ret
  exact ⟨v2, rfl, by rw [← HE.out]; exact own_base HO2.out (by rw [S0.out]; omega), B0.out.trans (HB2.out.mono (by rw [S0.out]; omega))⟩
end Go.Proofs.Ytcijjeflojaocaa
