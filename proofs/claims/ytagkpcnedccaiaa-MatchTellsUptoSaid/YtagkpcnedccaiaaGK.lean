/-
  The document's Match, walked.
-/
import Derived.Test.YtagkpcnedccaiaaGF
import Derived.Deep.CutRange
import Derived.Deep.RegionHeld3
import Derived.Deep.RegionWith
import Derived.BigQuiet
namespace Go.Proofs.Ytagkpcnedccaiaa
open Go.ChangeShapes Go.WideShapes Go.ChangeAt Go.RowKit Go.Deep
set_option maxRecDepth 100000
set_option linter.unusedVariables false
set_option linter.unusedSimpArgs false

def bhv (h : Bh) : Value := .agg #[.int .i64 h.k.1, .string h.k.2, .int .i64 h.dc, .int .i64 h.via, .slice h.pp h.pn h.pc, .slice h.qp h.qn h.qc]
/-- What the document's match answers. -/
def RmPost (w : World) (l m : List Bn) (e : Ending) (w' : World) : Prop :=
 ∃ (q : Option Addr) (n c : Nat) (h : Bh), e = .returned (.tuple #[.slice q n c, bhv h, .bool (isOk (mt l m))]) ∧ OwnP 48 w' w.heap.size (.slice q n c) (okL (mt l m)) ∧ Below w.heap.size w w' ∧ (isOk (mt l m) = true → h.k = (0, ⟨#[]⟩)) ∧ ∀ k', mt l m = .error k' → h.k = k'
/-- The six cells of a binding's box, all written. -/
def st6 (w : World) (g : Nat) (h : Bh) : World := (((((w.setCell ⟨g, 0, none⟩ (.int .i64 h.k.1)).setCell ⟨g, 1, none⟩ (.string h.k.2)).setCell ⟨g, 2, none⟩ (.int .i64 h.dc)).setCell ⟨g, 3, none⟩ (.int .i64 h.via)).setCell ⟨g, 4, none⟩ (.slice h.pp h.pn h.pc)).setCell ⟨g, 5, none⟩ (.slice h.qp h.qn h.qc)
theorem st6_same {w : World} {g : Nat} {x0 x1 x2 x3 x4 x5 : Value} {T : TypeId} (h : w.heap[g]? = some (.cells #[x0, x1, x2, x3, x4, x5] T (0, 0))) (b : Bh) :
  (st6 w g b).heap[g]? = some (.cells #[.int .i64 b.k.1, .string b.k.2, .int .i64 b.dc, .int .i64 b.via, .slice b.pp b.pn b.pc, .slice b.qp b.qn b.qc] T (0, 0)) := by
 unfold st6
 have h1 := heap_setCell_same w g 0 _ _ (.int .i64 b.k.1) h
 have h2 := heap_setCell_same _ g 1 _ _ (.string b.k.2) h1
 have h3 := heap_setCell_same _ g 2 _ _ (.int .i64 b.dc) h2
 have h4 := heap_setCell_same _ g 3 _ _ (.int .i64 b.via) h3
 have h5 := heap_setCell_same _ g 4 _ _ (.slice b.pp b.pn b.pc) h4
 have h6 := heap_setCell_same _ g 5 _ _ (.slice b.qp b.qn b.qc) h5
 simpa using h6
theorem st6_below {w0 w : World} {N g : Nat} (h : Below N w0 w) (hg : N ≤ g) (b : Bh) : Below N w0 (st6 w g b) := by
 unfold st6
 exact (((((h.setCell (p := ⟨g, 0, none⟩) hg _).setCell (p := ⟨g, 1, none⟩) hg _).setCell (p := ⟨g, 2, none⟩) hg _).setCell (p := ⟨g, 3, none⟩) hg _).setCell (p := ⟨g, 4, none⟩) hg _).setCell (p := ⟨g, 5, none⟩) hg _
theorem st6_other (w : World) {g k : Nat} (h : k ≠ g) (b : Bh) : (st6 w g b).heap[k]? = w.heap[k]? := by
 unfold st6
 rw [Below.heap_setCell _ ⟨g, _, none⟩ _ k h, Below.heap_setCell _ ⟨g, _, none⟩ _ k h, Below.heap_setCell _ ⟨g, _, none⟩ _ k h, Below.heap_setCell _ ⟨g, _, none⟩ _ k h, Below.heap_setCell _ ⟨g, _, none⟩ _ k h, Below.heap_setCell _ ⟨g, _, none⟩ _ k h]
theorem drew_heap (W : World) (k : Nat) : W.drew.heap[k]? = W.heap[k]? := rfl
def bh0 : Bh := ⟨(0, ⟨#[]⟩), 0, 0, none, 0, 0, none, 0, 0⟩

theorem cell_alloc {W : World} {g o : Nat} {v : Value} {ob : Obj} (hg : g < W.heap.size) (h : W.cell? ⟨g, o, none⟩ = some v) : (W.alloc ob).cell? ⟨g, o, none⟩ = some v := (((Below.refl W.heap.size W).alloc (Nat.le_refl _) ob).cell (p := ⟨g, o, none⟩) hg).trans h
theorem cell_set {W : World} {g o b j : Nat} {v u : Value} (hne : g ≠ b) (h : W.cell? ⟨g, o, none⟩ = some v) : (W.setCell ⟨b, j, none⟩ u).cell? ⟨g, o, none⟩ = some v := (World.cell?_of_block (Below.heap_setCell W ⟨b, j, none⟩ u g hne)).trans h
theorem cell_six {W : World} {g o b : Nat} {v u0 u1 u2 u3 u4 u5 : Value} (hne : g ≠ b) (h : W.cell? ⟨g, o, none⟩ = some v) : ((((((W.setCell ⟨b, 0, none⟩ u0).setCell ⟨b, 1, none⟩ u1).setCell ⟨b, 2, none⟩ u2).setCell ⟨b, 3, none⟩ u3).setCell ⟨b, 4, none⟩ u4).setCell ⟨b, 5, none⟩ u5).cell? ⟨g, o, none⟩ = some v :=
 cell_set hne (cell_set hne (cell_set hne (cell_set hne (cell_set hne (cell_set hne h)))))
/-- What the match of parts leaves behind. -/
structure Rx (w1 wx : World) (B : Nat) (h : Bh) (q : Option Addr) (n c : Nat) (v : Value) (L : List P2) (r : Except Ky (List P2)) : Prop where
 lo : w1.heap.size ≤ B
 box : wx.heap[B]? = some (.cells #[.int .i64 h.k.1, .string h.k.2, .int .i64 h.dc, .int .i64 h.via, .slice h.pp h.pn h.pc, .slice h.qp h.qn h.qc] 33 (0, 0))
 own : OwnP 48 wx w1.heap.size v L
 ps : PS wx q n c (okL r)
 bel : Below w1.heap.size w1 wx
 err : ∀ k', r = .error k' → h.k = k'
theorem rx_new {w1 wd w5 : World} {q5 : Option Addr} {n5 c5 : Nat} {h5 : Bh} {v : Value} {L : List P2} {r : Except Ky (List P2)} {b : Nat} (hB : Below wd.heap.size wd w5) (ho : OwnP 48 w5 b (.slice q5 n5 c5) (okL r)) (hr : OwnP 48 wd w1.heap.size v L) (hW : Below w1.heap.size w1 wd) (hw : w1.heap.size ≤ wd.heap.size) (he : ∀ k', r = .error k' → h5.k = k') :
  Rx w1 (w5.alloc (.cells #[.int .i64 h5.k.1, .string h5.k.2, .int .i64 h5.dc, .int .i64 h5.via, .slice h5.pp h5.pn h5.pc, .slice h5.qp h5.qn h5.qc] 33)) w5.heap.size h5 q5 n5 c5 v L r := by
 have hb : Below w5.heap.size w5 (w5.alloc (.cells #[.int .i64 h5.k.1, .string h5.k.2, .int .i64 h5.dc, .int .i64 h5.via, .slice h5.pp h5.pn h5.pc, .slice h5.qp h5.qn h5.qc] 33)) := (Below.refl _ _).alloc (Nat.le_refl _) _
 obtain ⟨q, n, c, e, hp⟩ := ho.ps
 simp only [Value.slice.injEq] at e
 obtain ⟨rfl, rfl, rfl⟩ := e
 exact ⟨Nat.le_trans hw hB.size, heap_new _ _, (hr.step hB).step hb, hp.step hb, (hW.trans (hB.mono hw)).trans (hb.mono (Nat.le_trans hw hB.size)), he⟩
theorem rx_old {w1 wd w5 : World} {q5 : Option Addr} {n5 c5 : Nat} {h5 : Bh} {v : Value} {L : List P2} {r : Except Ky (List P2)} {b : Nat} {x0 x1 x2 x3 x4 x5 : Value} (hB : Below wd.heap.size wd w5) (ho : OwnP 48 w5 b (.slice q5 n5 c5) (okL r)) (hr : OwnP 48 wd w1.heap.size v L) (hW : Below w1.heap.size w1 wd) (hw : w1.heap.size ≤ wd.heap.size) (he : ∀ k', r = .error k' → h5.k = k')
  (hx : w5.heap[wd.heap.size]? = some (.cells #[x0, x1, x2, x3, x4, x5] 33 (0, 0))) :
  Rx w1 (st6 w5 wd.heap.size h5) wd.heap.size h5 q5 n5 c5 v L r := by
 have hne := own_ne ho hx (no48 (by decide))
 have hb : Below wd.heap.size wd (st6 w5 wd.heap.size h5) := st6_below hB (Nat.le_refl _) h5
 have ho' : OwnP 48 (st6 w5 wd.heap.size h5) b (.slice q5 n5 c5) (okL r) := by
  obtain ⟨hl, h0 | ⟨g, cc, cur, hv, hbb, hgg, hr⟩⟩ := ho
  ·exact ⟨hl, .inl h0⟩
  ·have hgk : g ≠ wd.heap.size := fun e => hne (by rw [hv, e]; rfl)
   exact ⟨hl, .inr ⟨g, cc, cur, hv, hbb, (st6_other _ hgk h5).trans hgg, hr⟩⟩
 obtain ⟨q, n, c, e, hp⟩ := ho'.ps
 simp only [Value.slice.injEq] at e
 obtain ⟨rfl, rfl, rfl⟩ := e
 exact ⟨hw, st6_same hx h5, hr.step hb, hp, hW.trans (hb.mono hw), he⟩
set_option maxHeartbeats 16000000 in
theorem rm_step (l m : List Bn) (w : World) (p p' : Option Addr) (n c n' c' : Nat) (hl : Bl w p n c l) (hm : Bl w p' n' c' m) (hs : sizes l ≤ 4000) (hs' : sizes m ≤ 4000)
  (IH : ∀ (l1 m1 : List Bn) (w1 : World) (q q' : Option Addr) (k d k' d' : Nat), sizes l1 < sizes l → sizes m1 ≤ 4000 → Bl w1 q k d l1 → Bl w1 q' k' d' m1 → Calls Try.prog 11 #[.slice q k d, .slice q' k' d'] w1 (RmPost w1 l1 m1)) :
  Calls Try.prog 11 #[.slice p n c, .slice p' n' c'] w (RmPost w l m) := by
 obtain ⟨i48, hi48, hx0, hx1, hx2⟩ := info_parts info48
 have hn9 : n ≤ 4000 := by have := hl.1.1; have := sizes_len l; omega
 have hn9' : n' ≤ 4000 := by have := hm.1.1; have := sizes_len m; omega
 have HV := Lib.hid fun (W : World) (hW : Below w.heap.size w W) => visible_any W p n c l (hl.1.step hW) (by omega)
 have HL := Lib.hid hl
 have HM := Lib.hid hm
 have HIH := Lib.hid IH
 have hln : ∀ (W : World) (q : Option Addr) (n c : Nat), (Builtin.len_ #[22] 3 #[.slice q n c]).run Try.prog W = .ok (.int .i64 n) W := fun W q n c => rfl
 clear hl hm IH
 go_enter Try.func11, Try.ntmps11
 go_wp2_with (go_at_call 26; have hz1 := (Below.refl w.heap.size w).alloc (Nat.le_refl _) (.cells #[.int .i64 0, .string ⟨#[]⟩, .int .i64 0, .int .i64 0, .slice none 0 0, .slice none 0 0] 33); refine (HV.out _ hz1).mono ?_; rintro e w1 ⟨v1, rfl, ho1, hb1⟩; have g5 := heap_step (heap_new w (.cells #[.int .i64 0, .string ⟨#[]⟩, .int .i64 0, .int .i64 0, .slice none 0 0, .slice none 0 0] 33)) hb1; have HB1 := Lib.hid (hz1.trans (hb1.mono (by simp))); have HT5 := Lib.hid g5; obtain ⟨q1, n1, c1, rfl, hbn⟩ := ho1.bn; have HBN := Lib.hid hbn; have s5 := heap_lt g5; clear hz1 ho1 hb1 g5 hbn)
 obtain ⟨V, hV⟩ : ∃ V, V = visN l := ⟨_, rfl⟩
 have HMT : Hid (mt l m = mtL mt m V) := Lib.hid (by rw [hV]; exact mt_eq l m)
 have HVM : Hid (∀ a ∈ V, a ∈ l) := Lib.hid fun a ha => visToN_mem _ _ _ (by rw [hV] at ha; exact ha)
 have HVS : Hid (∀ a ∈ V, sizes a.ps < sizes l) := Lib.hid fun a ha => size_pv (by rw [hV] at ha; exact ha)
 have HVZ : Hid (sizes V ≤ sizes l) := Lib.hid (by rw [hV]; exact sizes_visN l)
 rw [← hV] at HBN
 clear hV
 have hn1 : n1 ≤ 4000 := by have := HBN.out.1; have := sizes_len V; have := HVZ.out; omega
 have hw1 : w.heap.size < w1.heap.size := s5
 have HF := Lib.hid fun (W : World) (key : Ky) (hW : Below w.heap.size w W) => find37_any W p' n' c' m key (HM.out.1.step hW) (by omega)
 go_loopw [7, 9] (fun v i wr => ∃ (k : Nat) (qo : Option Addr) (no co : Nat), k ≤ n1 ∧ i = .int .i64 k ∧ v = .slice qo no co ∧ Hid (OwnP 48 wr w1.heap.size (.slice qo no co) ((V.take k).flatMap (itmL mt m))) ∧ Hid (Below w1.heap.size w1 wr) ∧
   Hid (∀ (i : Nat) (c : Bn), i < k → V[i]? = some c → ∃ z, fndN m c.h.k = some z ∧ (c.h.k.1 = 4 → isOk (mt c.ps z.ps) = true))) (fun _ i _ => n1 - (intOf i).toNat)
 case atStart => exact ⟨0, none, 0, 0, by omega, rfl, rfl, Lib.hid (OwnP.nil _ _ _), Lib.hid (Below.refl _ _), Lib.hid (fun i c hi => by omega)⟩
 case round =>
  obtain ⟨k, qo, no, co, hk, rfl, rfl, HO, HBW, HPR⟩ := hrel
  by_cases hlt : k < n1
  ·obtain ⟨hn1', h0' | ⟨gv, ov, rfl, hcb, hgb, hat⟩⟩ := HBN.out
   ·omega
   obtain ⟨a', ha'⟩ : ∃ a', V[k]? = some a' := ⟨_, List.getElem?_eq_getElem (by omega)⟩
   have HA' := Lib.hid ha'
   have ham := List.mem_of_getElem? ha'
   have HAT := Lib.hid (hat k a' ha')
   obtain ⟨v0, v1, v2, v3, v4, v5⟩ := (hat k a' ha').step hgb HBW.out
   have hgb2 : gv < wr.heap.size := Nat.lt_of_lt_of_le hgb HBW.out.size
   have HBww := Lib.hid (HB1.out.trans (HBW.out.mono HB1.out.size))
   have HF' : Hid (∀ d, Calls Try.prog 27 #[.slice p' n' c', .int .i64 a'.h.k.1, .string a'.h.k.2] (wr.drewN d) fun e w' => e = .returned (.int .i64 (fiV (lastN m a'.h.k m.length))) ∧ ∃ m, w' = wr.drewN m) := Lib.hid fun d => by
    refine (HF.out (wr.drewN d) a'.h.k (below_drewN HBww.out d)).mono ?_
    rintro e w' ⟨h1, d', h2⟩
    exact ⟨h1, d + d', by rw [h2, World.drewN_drewN]⟩
   have HPS := Lib.hid (HVS.out a' ham)
   have HLI := Lib.hid ((lies_iff w a').1 ((allLie_iff w l).1 HL.out.2 a' (HVM.out a' ham)))
   have r1 : (0 : Int) ≤ (k : Int) := by omega
   have r2 : (k : Int) < (n1 : Int) := by omega
   have hf := HF'.out
   have HLN : Hid (no ≤ 4000) := Lib.hid (by
    have h1 := HO.out.ps
    obtain ⟨q2, n2, c2, e1, e2⟩ := h1
    simp only [Value.slice.injEq] at e1
    have h2 := flat_len m (V.take k)
    have h3 := sizes_take_le V k
    have h4 := HVZ.out
    have h5 := e2.1
    omega)
   obtain ⟨F, hF⟩ : ∃ F, F = fiV (lastN m a'.h.k m.length) := ⟨_, rfl⟩
   rw [← hF] at hf
   have HFV := Lib.hid hF
   obtain ⟨h, hh⟩ : ∃ h, h = a'.h := ⟨_, rfl⟩
   have HH := Lib.hid hh
   rw [← hh] at hf v0 v1 v2 v3 v4 v5
   clear hat hn1' ham ha' hF hh
   go_upto_region 6 with fail
   go_cut [10] from 22 to 33 (fun v10 wx => v10 = .int .i64 F ∧ Hid (Below wr.heap.size wr wx))
   case first =>
    go_quiet (first | (with_reducible exact hf _))
    go_wp2_with fail
    go_meet
    exact ⟨rfl, Lib.hid (by first | exact below_drewN (Below.refl _ _) _ | exact below_drewN (below_drewN (Below.refl _ _) _) _)⟩
   obtain ⟨rfl, HBc⟩ := hcut
   have HBW2 := Lib.hid (HBW.out.trans (HBc.out.mono HBW.out.size))
   have HOc := Lib.hid (HO.out.step HBc.out)
   clear v0 v1 v2 v3 v4 v5 hf hgb2 HF' HBww HO HBW HBc
   obtain ⟨v0, v1, v2, v3, v4, v5⟩ := HAT.out.step hgb HBW2.out
   rw [← HH.out] at v0 v1 v2 v3 v4 v5
   have hgb2 : gv < wc.heap.size := Nat.lt_of_lt_of_le hgb HBW2.out.size
   have HT5c := Lib.hid (heap_step HT5.out HBW2.out)
   have hw1c : w1.heap.size ≤ wc.heap.size := HBW2.out.size
   have hwwc : w.heap.size < wc.heap.size := by omega
   cases hz : fndN m a'.h.k with
   | none =>
    have HER : Hid (mt l m = .error a'.h.k) := Lib.hid (by rw [HMT.out]; exact mtL_at HPR.out HA'.out (.inl ⟨hz, rfl⟩))
    have hF1 : F = -1 := by
     rw [HFV.out]
     cases hq : lastN m a'.h.k m.length with
     | none => rfl
     | some j =>
      unfold fndN at hz
      rw [hq] at hz
      simp only [Option.bind_some] at hz
      have hj : j < m.length := by
       have := (lastI_some hq).1
       simpa using this
      rw [List.getElem?_eq_none_iff] at hz
      omega
    subst hF1
    have HFIN : Hid (∀ w', True → Below w.heap.size w w' → RmPost w l m (.returned (.tuple #[.slice none 0 0, bhv h, .bool false])) w') := Lib.hid fun w' _ hb =>
     ⟨none, 0, 0, h, by rw [HER.out]; rfl, by rw [HER.out]; exact OwnP.nil _ _ _, hb, (by rw [HER.out]; intro h; cases h), fun k' hk' => by rw [HER.out] at hk'; cases hk'; rw [HH.out]⟩
    have HFIN := Lib.hid fun w' (_ : True) hb => HFIN.out w' trivial hb
    have x0 : wc.cell? ⟨w.heap.size, 0, none⟩ = some (.int .i64 0) := (cellH HT5c.out 0).trans rfl
    have x1 : wc.cell? ⟨w.heap.size, 1, none⟩ = some (.string ⟨#[]⟩) := (cellH HT5c.out 1).trans rfl
    have x2 : wc.cell? ⟨w.heap.size, 2, none⟩ = some (.int .i64 0) := (cellH HT5c.out 2).trans rfl
    have x3 : wc.cell? ⟨w.heap.size, 3, none⟩ = some (.int .i64 0) := (cellH HT5c.out 3).trans rfl
    have x4 : wc.cell? ⟨w.heap.size, 4, none⟩ = some (.slice none 0 0) := (cellH HT5c.out 4).trans rfl
    have x5 : wc.cell? ⟨w.heap.size, 5, none⟩ = some (.slice none 0 0) := (cellH HT5c.out 5).trans rfl
    have fz0 : wc.frozen? ⟨w.heap.size, 0, none⟩ = false := frozenH HT5c.out 0
    have fz1 : wc.frozen? ⟨w.heap.size, 1, none⟩ = false := frozenH HT5c.out 1
    have fz2 : wc.frozen? ⟨w.heap.size, 2, none⟩ = false := frozenH HT5c.out 2
    have fz3 : wc.frozen? ⟨w.heap.size, 3, none⟩ = false := frozenH HT5c.out 3
    have fz4 : wc.frozen? ⟨w.heap.size, 4, none⟩ = false := frozenH HT5c.out 4
    have fz5 : wc.frozen? ⟨w.heap.size, 5, none⟩ = false := frozenH HT5c.out 5
    have HU : Hid ((st6 wc w.heap.size h).drew = ((((((wc.setCell ⟨w.heap.size, 0, none⟩ (.int .i64 h.k.1)).setCell ⟨w.heap.size, 1, none⟩ (.string h.k.2)).setCell ⟨w.heap.size, 2, none⟩ (.int .i64 h.dc)).setCell ⟨w.heap.size, 3, none⟩ (.int .i64 h.via)).setCell ⟨w.heap.size, 4, none⟩ (.slice h.pp h.pn h.pc)).setCell ⟨w.heap.size, 5, none⟩ (.slice h.qp h.qn h.qc)).drew) := Lib.hid rfl
    have HQ2 := Lib.hid (st6_same HT5c.out h)
    have HZ : Hid (Below w.heap.size w (st6 wc w.heap.size h).drew) := Lib.hid ((st6_below (HB1.out.trans (HBW2.out.mono HB1.out.size)) (Nat.le_refl _) h).drew)
    go_wp2_with fail
    go_region
    all_goals (
     go_wp2_with fail
     rw [← HU.out]
     have q2 := (drew_heap _ w.heap.size).trans HQ2.out
     clear HQ2
     clear x0 x1 x2 x3 x4 x5 fz0 fz1 fz2 fz3 fz4 fz5 HU
     generalize (st6 wc w.heap.size h).drew = W3 at q2 HZ ⊢
     have y0 : W3.cell? ⟨w.heap.size, 0, none⟩ = some (.int .i64 h.k.1) := (cellH q2 0).trans rfl
     have y1 : W3.cell? ⟨w.heap.size, 1, none⟩ = some (.string h.k.2) := (cellH q2 1).trans rfl
     have y2 : W3.cell? ⟨w.heap.size, 2, none⟩ = some (.int .i64 h.dc) := (cellH q2 2).trans rfl
     have y3 : W3.cell? ⟨w.heap.size, 3, none⟩ = some (.int .i64 h.via) := (cellH q2 3).trans rfl
     have y4 : W3.cell? ⟨w.heap.size, 4, none⟩ = some (.slice h.pp h.pn h.pc) := (cellH q2 4).trans rfl
     have y5 : W3.cell? ⟨w.heap.size, 5, none⟩ = some (.slice h.qp h.qn h.qc) := (cellH q2 5).trans rfl
     clear q2
     refine bodyPost_ret (by simp [results, Try.results11, go_sem, y0, y1, y2, y3, y4, y5, Result.andThen]; try rfl) rfl ?_
     exact HFIN.out _ trivial HZ.out)

   | some z =>
    obtain ⟨j, hj, hjz⟩ : ∃ j : Nat, F = (j : Int) ∧ m[j]? = some z := by
     rw [HFV.out]
     cases hq : lastN m a'.h.k m.length with
     | none => unfold fndN at hz; rw [hq] at hz; cases hz
     | some j => unfold fndN at hz; rw [hq] at hz; exact ⟨j, rfl, hz⟩
    subst hj
    have HZF := Lib.hid hz
    obtain ⟨wa, hwa⟩ : ∃ wa, wa = wc := ⟨_, rfl⟩
    subst hwa
    obtain ⟨hn2', h0'' | ⟨gm, om, rfl, hcm, hgm, hatm⟩⟩ := HM.out.1
    ·have := (List.getElem?_eq_some_iff.1 hjz).1; omega
    have hjn : j < n' := by have := (List.getElem?_eq_some_iff.1 hjz).1; omega
    have HATM := Lib.hid (hatm j z hjz)
    have hzm := List.mem_of_getElem? hjz
    have HMI := Lib.hid ((lies_iff w z).1 ((allLie_iff w m).1 HM.out.2 z hzm))
    have HZS : Hid (sizes z.ps ≤ 4000) := Lib.hid (by have := size_ps hzm; omega)
    have HBwa := Lib.hid (HB1.out.trans (HBW2.out.mono HB1.out.size))
    have s1 : (0 : Int) ≤ (j : Int) := by omega
    have s2 : (j : Int) < (n' : Int) := by omega
    have HIT : Hid (itmL mt m a' = ownL a' z ++ (if a'.h.k.1 = 4 then okL (mt a'.ps z.ps) else [])) := Lib.hid (by unfold itmL; rw [HZF.out])
    have HTK : Hid ((V.take (k + 1)).flatMap (itmL mt m) = (V.take k).flatMap (itmL mt m) ++ itmL mt m a') := Lib.hid (flat_take HA'.out _)
    obtain ⟨u0, u1, u2, u3, u4, u5⟩ := HATM.out.step hgm HBwa.out
    obtain ⟨g, hg⟩ : ∃ g, g = z.h := ⟨_, rfl⟩
    have HGZ := Lib.hid hg
    rw [← hg] at u0 u1 u2 u3 u4 u5
    have hgm2 : gm < wa.heap.size := Nat.lt_of_lt_of_le hgm HBwa.out.size
    clear hz hjz hatm hzm hn2' hg hjn
    obtain ⟨⟨ks, kn⟩, hdc, hvia, hpp, hpn, hpc, hqp, hqn, hqc⟩ := h
    obtain ⟨⟨gs, gn⟩, gdc, gvia, gpp, gpn, gpc, gqp, gqn, gqc⟩ := g
    dsimp only at v0 v1 v2 v3 v4 v5 u0 u1 u2 u3 u4 u5
    have HKE : Hid ((ks, kn) = a'.h.k) := Lib.hid (by rw [← HH.out])
    have HOW : Hid (ownL a' z = if hdc = gdc then [] else [(hdc, gdc)]) := Lib.hid (by unfold ownL; rw [← HH.out, ← HGZ.out])
    have HPR2 : Hid ((ks = 4 → isOk (mt a'.ps z.ps) = true) → ∀ (i : Nat) (c : Bn), i < k + 1 → V[i]? = some c → ∃ z, fndN m c.h.k = some z ∧ (c.h.k.1 = 4 → isOk (mt c.ps z.ps) = true)) := Lib.hid fun hok i c hi hc => by
     by_cases hik : i < k
     ·exact HPR.out i c hik hc
     ·obtain rfl : i = k := by omega
      rw [HA'.out] at hc
      obtain rfl := Option.some.inj hc
      exact ⟨z, HZF.out, fun h4 => hok (by rw [← HKE.out] at h4; exact h4)⟩
    go_upto_region 9 with fail
    go_cut [50] from 36 to 50 (fun s50 wx => s50 = .bool (hdc != gdc) ∧ Hid (Below wa.heap.size wa wx))
    case first =>
     go_quiet (fail)
     go_wp2_with fail
     go_meet
     exact ⟨rfl, Lib.hid (by first | exact below_drewN (Below.refl _ _) _ | exact below_drewN (below_drewN (Below.refl _ _) _) _)⟩
    obtain ⟨rfl, HBd⟩ := hcut
    obtain ⟨wb, hwb⟩ : ∃ wb, wb = wc := ⟨_, rfl⟩
    subst hwb
    have HOb := Lib.hid (HOc.out.step HBd.out)
    have HBWb := Lib.hid (HBW2.out.trans (HBd.out.mono HBW2.out.size))
    clear v0 v1 v2 v3 v4 v5 u0 u1 u2 u3 u4 u5 hgb2 hgm2 HOc HBW2 HT5c hw1c hwwc HBwa HBd
    have HBwb := Lib.hid (HB1.out.trans (HBWb.out.mono HB1.out.size))
    obtain ⟨v0, v1, v2, v3, v4, v5⟩ := HAT.out.step hgb HBWb.out
    rw [← HH.out] at v0 v1 v2 v3 v4 v5
    obtain ⟨u0, u1, u2, u3, u4, u5⟩ := HATM.out.step hgm HBwb.out
    rw [← HGZ.out] at u0 u1 u2 u3 u4 u5
    dsimp only at v0 v1 v2 v3 v4 v5 u0 u1 u2 u3 u4 u5
    have hgb2 : gv < wb.heap.size := Nat.lt_of_lt_of_le hgb HBWb.out.size
    have hgm2 : gm < wb.heap.size := Nat.lt_of_lt_of_le hgm HBwb.out.size
    have hw1b : w1.heap.size ≤ wb.heap.size := HBWb.out.size
    have hno : no ≤ 4000 := HLN.out
    clear v0 v1 v3 v4 v5 u0 u1 u3 u4 u5
    go_upto_if 50 with fail
    go_cut [7] from 50 to 64 (fun s7 wx => ∃ (qo : Option Addr) (no co : Nat), s7 = .slice qo no co ∧ no ≤ 4001 ∧ Hid (OwnP 48 wx w1.heap.size (.slice qo no co) ((V.take k).flatMap (itmL mt m) ++ ownL a' z)) ∧ Hid (Below w1.heap.size w1 wx))
    case first =>
     by_cases hdd : hdc = gdc
     ·have hOW : Hid (ownL a' z = []) := Lib.hid (by rw [HOW.out, if_pos hdd])
      have ht : (hdc != gdc) = false := by simp [hdd]
      clear hdd
      go_wp2_with fail
      go_meet
      exact ⟨_, _, _, rfl, by omega, Lib.hid (by rw [hOW.out, List.append_nil]; exact HOb.out), HBWb⟩
     ·have hOW : Hid (ownL a' z = [(hdc, gdc)]) := Lib.hid (by rw [HOW.out, if_neg hdd])
      have ht : (hdc != gdc) = true := by simp [hdd]
      clear hdd
      have hbL : Below wb.heap.size wb (wb.drew.alloc (.cells #[.int .i64 hdc, .int .i64 gdc] 48)) := ((Below.refl _ _).drew).alloc (Nat.le_refl _) _
      have hrow := HOb.out.step hbL
      have hlen : ((V.take k).flatMap (itmL mt m)).length = no := by
       obtain ⟨q2, n2, c2, e1, e2⟩ := HOb.out.ps
       simp only [Value.slice.injEq] at e1
       have := e2.1
       omega
      unfold OwnP at hrow
      rw [hlen] at hrow
      obtain ⟨v', w3, hap, hown, hgr, _⟩ := run_append_own (P := Try.prog) (wb.drew.alloc (.cells #[.int .i64 hdc, .int .i64 gdc] 48)) w1.heap.size 25 25 48 i48 _ 2 16 Try.underlying25 hi48 hx0 hx1 hx2 rfl (by decide) _ _ _ hrow ⟨wb.heap.size, 0, none⟩ 1 1 (pc (hdc, gdc)) rfl (newp 48 wb.drew (hdc, gdc)) (onep _) (by unfold maxLen; omega) (by omega) (by simp; omega)
      have hown' : OwnP 48 w3 w1.heap.size v' ((V.take k).flatMap (itmL mt m) ++ [(hdc, gdc)]) := OwnP.snoc (by rw [hlen]; exact hown)
      obtain ⟨q', n2, c2, hv', hps'⟩ := hown'.ps
      subst hv'
      have hn2 : n2 ≤ 4001 := by have := hps'.1; rw [List.length_append, hlen] at this; simp at this; omega
      have HFINL := Lib.hid hown'
      have HFINB := Lib.hid (((HBWb.out.trans (hbL.mono HBWb.out.size))).grown hgr (by simp; omega) (fun j hj => (World.ownsRow.lt hrow j hj).1))
      clear hown hown' hgr hrow hlen hbL hps'
      go_wp2_with fail
      go_region_law (refine step_append_run (by rfl) (.tmp 51) (.tmp 63) 25 (by rfl) (.slice qo no co) (.slice (some ⟨wb.heap.size, 0, none⟩) 1 1) _ _ (by simp [Act.eval, Act.put]) (by simp [Act.eval, Act.put]) hap ?_)
      all_goals (go_wp2_with fail; go_meet; exact ⟨_, _, _, rfl, hn2, Lib.hid (by rw [hOW.out]; exact HFINL.out), HFINB⟩)
    case rest =>
     obtain ⟨qo, no, co, rfl, hno2, HOc, HBWc⟩ := hcut
     obtain ⟨wd, hwd⟩ : ∃ wd, wd = wc := ⟨_, rfl⟩
     subst hwd
     clear v2 u2 hgb2 hgm2 hw1b HOb HBWb HBwb hno HLN HOW
     have HBwd := Lib.hid (HB1.out.trans (HBWc.out.mono HB1.out.size))
     obtain ⟨v0, v1, v2, v3, v4, v5⟩ := HAT.out.step hgb HBWc.out
     rw [← HH.out] at v0 v1 v2 v3 v4 v5
     obtain ⟨u0, u1, u2, u3, u4, u5⟩ := HATM.out.step hgm HBwd.out
     rw [← HGZ.out] at u0 u1 u2 u3 u4 u5
     dsimp only at v0 v1 v2 v3 v4 v5 u0 u1 u2 u3 u4 u5
     have hgb2 : gv < wd.heap.size := Nat.lt_of_lt_of_le hgb HBWc.out.size
     have hgm2 : gm < wd.heap.size := Nat.lt_of_lt_of_le hgm HBwd.out.size
     have hw1d : w1.heap.size ≤ wd.heap.size := HBWc.out.size
     clear v1 v2 v3 v5 u0 u1 u2 u3 u5
     by_cases h4 : ks = 4
     ·subst h4
      have HIT2 : Hid (itmL mt m a' = ownL a' z ++ okL (mt a'.ps z.ps)) := Lib.hid (by rw [HIT.out, if_pos (by rw [← HKE.out])])
      have HC : Hid (∀ W, Below w.heap.size w W → Calls Try.prog 11 #[.slice hpp hpn hpc, .slice gpp gpn gpc] W (RmPost W a'.ps z.ps)) := Lib.hid fun W hW =>
       HIH.out a'.ps z.ps W hpp gpp hpn hpc gpn gpc HPS.out HZS.out
        (Bl.step (by have := HLI.out; rw [← HH.out] at this; exact ⟨this.1, this.2.2.1⟩) hW) (Bl.step (by have := HMI.out; rw [← HGZ.out] at this; exact ⟨this.1, this.2.2.1⟩) hW)
      have hbA : Below wd.heap.size wd ((wd.alloc (.cells #[.int .i64 0, .string ⟨#[]⟩, .int .i64 0, .int .i64 0, .slice none 0 0, .slice none 0 0] 33)).drew) := ((Below.refl _ _).alloc (Nat.le_refl _) _).drew
      have HBd1 : Hid (Below w.heap.size w wd.drew) := Lib.hid HBwd.out.drew
      have HBd2 : Hid (Below w.heap.size w ((wd.alloc (.cells #[.int .i64 0, .string ⟨#[]⟩, .int .i64 0, .int .i64 0, .slice none 0 0, .slice none 0 0] 33)).drew)) := Lib.hid (HBwd.out.trans (hbA.mono (by omega)))
      have HNWA : Hid ((wd.alloc (.cells #[.int .i64 0, .string ⟨#[]⟩, .int .i64 0, .int .i64 0, .slice none 0 0, .slice none 0 0] 33)).drew.heap[wd.heap.size]? = some (.cells #[.int .i64 0, .string ⟨#[]⟩, .int .i64 0, .int .i64 0, .slice none 0 0, .slice none 0 0] 33 (0, 0))) := Lib.hid (heap_new wd _)
      have HBA := Lib.hid hbA
      clear hbA
      go_upto_region 12 with fail
      go_cut [11, 12, 13] from 71 to 85 (fun s11 s12 s13 wx => ∃ (q5 : Option Addr) (n5 c5 : Nat) (h5 : Bh) (B12 : Nat), s11 = .slice q5 n5 c5 ∧ s12 = .pointer (some ⟨B12, 0, none⟩) ∧ s13 = .bool (isOk (mt a'.ps z.ps)) ∧ Hid (Rx w1 wx B12 h5 q5 n5 c5 (.slice qo no co) ((V.take k).flatMap (itmL mt m) ++ ownL a' z) (mt a'.ps z.ps)))
      case first =>
       have hgbn : gv ≠ wd.heap.size := by omega
       have hgmn : gm ≠ wd.heap.size := by omega
       have k4 : wd.drew.cell? ⟨gv, ov + k * 6 + 4, none⟩ = some (.slice hpp hpn hpc) := v4
       have l4 : wd.drew.cell? ⟨gm, om + j * 6 + 4, none⟩ = some (.slice gpp gpn gpc) := u4
       go_region_with (first
        | (go_at_call 11; (with_reducible refine Calls.mono (HC.out _ HBd1.out) ?_); rintro e w5 ⟨q5, n5, c5, ⟨⟨s5, t5⟩, d5, i5, pp5, pn5, pc5, qp5, qn5, qc5⟩, rfl, ho5, hb5, _, hke5⟩; have HB5 := Lib.hid ((Below.refl wd.heap.size wd).drew.trans hb5); have HO5 := Lib.hid ho5; have HKE5 := Lib.hid hke5; simp only [bhv]; have k5 : w5.cell? ⟨gv, ov + k * 6 + 4, none⟩ = some (.slice hpp hpn hpc) := (HB5.out.cell (p := ⟨gv, _, none⟩) hgb2).trans v4; have l5 : w5.cell? ⟨gm, om + j * 6 + 4, none⟩ = some (.slice gpp gpn gpc) := (HB5.out.cell (p := ⟨gm, _, none⟩) hgm2).trans u4; have hw5 : wd.heap.size ≤ w5.heap.size := HB5.out.size; have hg5 : gv < w5.heap.size := Nat.lt_of_lt_of_le hgb2 hw5; have hm5 : gm < w5.heap.size := Nat.lt_of_lt_of_le hgm2 hw5; clear ho5 hb5 hke5)
        | (go_at_call 11; (with_reducible refine Calls.mono (HC.out _ HBd2.out) ?_); rintro e w5 ⟨q5, n5, c5, ⟨⟨s5, t5⟩, d5, i5, pp5, pn5, pc5, qp5, qn5, qc5⟩, rfl, ho5, hb5, _, hke5⟩; have HB5 := Lib.hid (HBA.out.trans (hb5.mono HBA.out.size)); have HO5 := Lib.hid (ho5.base HBA.out.size); have HKE5 := Lib.hid hke5; simp only [bhv]; have k5 : w5.cell? ⟨gv, ov + k * 6 + 4, none⟩ = some (.slice hpp hpn hpc) := (HB5.out.cell (p := ⟨gv, _, none⟩) hgb2).trans v4; have l5 : w5.cell? ⟨gm, om + j * 6 + 4, none⟩ = some (.slice gpp gpn gpc) := (HB5.out.cell (p := ⟨gm, _, none⟩) hgm2).trans u4; have g12 := heap_step HNWA.out hb5; have HG12 := Lib.hid g12; have z0 : w5.cell? ⟨wd.heap.size, 0, none⟩ = some (.int .i64 0) := (cellH g12 0).trans rfl; have z1 : w5.cell? ⟨wd.heap.size, 1, none⟩ = some (.string ⟨#[]⟩) := (cellH g12 1).trans rfl; have z2 : w5.cell? ⟨wd.heap.size, 2, none⟩ = some (.int .i64 0) := (cellH g12 2).trans rfl; have z3 : w5.cell? ⟨wd.heap.size, 3, none⟩ = some (.int .i64 0) := (cellH g12 3).trans rfl; have z4 : w5.cell? ⟨wd.heap.size, 4, none⟩ = some (.slice none 0 0) := (cellH g12 4).trans rfl; have z5 : w5.cell? ⟨wd.heap.size, 5, none⟩ = some (.slice none 0 0) := (cellH g12 5).trans rfl; have zf0 : w5.frozen? ⟨wd.heap.size, 0, none⟩ = false := frozenH g12 0; have zf1 : w5.frozen? ⟨wd.heap.size, 1, none⟩ = false := frozenH g12 1; have zf2 : w5.frozen? ⟨wd.heap.size, 2, none⟩ = false := frozenH g12 2; have zf3 : w5.frozen? ⟨wd.heap.size, 3, none⟩ = false := frozenH g12 3; have zf4 : w5.frozen? ⟨wd.heap.size, 4, none⟩ = false := frozenH g12 4; have zf5 : w5.frozen? ⟨wd.heap.size, 5, none⟩ = false := frozenH g12 5; clear ho5 hb5 hke5 g12))
       all_goals (
        go_wp2_with fail
        go_meet
        first
         | (have hx12 := HG12.out; refine ⟨q5, n5, c5, ⟨(s5, t5), d5, i5, pp5, pn5, pc5, qp5, qn5, qc5⟩, wd.heap.size, rfl, rfl, rfl, Lib.hid ?_⟩; have hrx := rx_old (h5 := ⟨(s5, t5), d5, i5, pp5, pn5, pc5, qp5, qn5, qc5⟩) HB5.out HO5.out HOc.out HBWc.out hw1d HKE5.out hx12; unfold st6 at hrx; exact hrx)
         | exact ⟨q5, n5, c5, ⟨(s5, t5), d5, i5, pp5, pn5, pc5, qp5, qn5, qc5⟩, w5.heap.size, rfl, rfl, rfl, Lib.hid (rx_new (h5 := ⟨(s5, t5), d5, i5, pp5, pn5, pc5, qp5, qn5, qc5⟩) HB5.out HO5.out HOc.out HBWc.out hw1d HKE5.out)⟩)
      case rest =>
       obtain ⟨q5, n5, c5, h5, B12, rfl, rfl, rfl, HRX⟩ := hcut
       obtain ⟨we, hwe⟩ : ∃ we, we = wc := ⟨_, rfl⟩
       subst hwe
       obtain ⟨⟨s5, t5⟩, d5, i5, pp5, pn5, pc5, qp5, qn5, qc5⟩ := h5
       clear v0 v4 u4 hgb2 hgm2 hw1d HBA HNWA HBd1 HBd2 HC HBwd
       have z0 : we.cell? ⟨B12, 0, none⟩ = some (.int .i64 s5) := (cellH HRX.out.box 0).trans rfl
       have z1 : we.cell? ⟨B12, 1, none⟩ = some (.string t5) := (cellH HRX.out.box 1).trans rfl
       have z2 : we.cell? ⟨B12, 2, none⟩ = some (.int .i64 d5) := (cellH HRX.out.box 2).trans rfl
       have z3 : we.cell? ⟨B12, 3, none⟩ = some (.int .i64 i5) := (cellH HRX.out.box 3).trans rfl
       have z4 : we.cell? ⟨B12, 4, none⟩ = some (.slice pp5 pn5 pc5) := (cellH HRX.out.box 4).trans rfl
       have z5 : we.cell? ⟨B12, 5, none⟩ = some (.slice qp5 qn5 qc5) := (cellH HRX.out.box 5).trans rfl
       have hB12 : w1.heap.size ≤ B12 := HRX.out.lo
       have hwB : w.heap.size ≠ B12 := by omega
       have hBw : B12 ≠ w.heap.size := by omega
       have hB12l : B12 < we.heap.size := heap_lt HRX.out.box
       have HT5e := Lib.hid (heap_step HT5.out HRX.out.bel)
       have HBel := Lib.hid HRX.out.bel
       have hwl : w.heap.size < we.heap.size := heap_lt HT5e.out
       cases hm : mt a'.ps z.ps with
       | error kk =>
        have HER : Hid (mt l m = .error kk) := Lib.hid (by rw [HMT.out]; exact mtL_at HPR.out HA'.out (.inr ⟨z, HZF.out, by rw [← HKE.out], hm⟩))
        have HKK : Hid ((s5, t5) = kk) := Lib.hid (HRX.out.err kk hm)
        have HFIN : Hid (∀ w', True → Below w.heap.size w w' → RmPost w l m (.returned (.tuple #[.slice none 0 0, bhv ⟨(s5, t5), d5, i5, pp5, pn5, pc5, qp5, qn5, qc5⟩, .bool false])) w') := Lib.hid fun w' _ hb =>
         ⟨none, 0, 0, ⟨(s5, t5), d5, i5, pp5, pn5, pc5, qp5, qn5, qc5⟩, by rw [HER.out]; rfl, by rw [HER.out]; exact OwnP.nil _ _ _, hb, (by rw [HER.out]; intro h; cases h), fun k' hk' => by rw [HER.out] at hk'; cases hk'; exact HKK.out⟩
        have hk0 : isOk (Except.error kk : Except Ky (List P2)) = false := rfl
        have x0 : we.cell? ⟨w.heap.size, 0, none⟩ = some (.int .i64 0) := (cellH HT5e.out 0).trans rfl
        have x1 : we.cell? ⟨w.heap.size, 1, none⟩ = some (.string ⟨#[]⟩) := (cellH HT5e.out 1).trans rfl
        have x2 : we.cell? ⟨w.heap.size, 2, none⟩ = some (.int .i64 0) := (cellH HT5e.out 2).trans rfl
        have x3 : we.cell? ⟨w.heap.size, 3, none⟩ = some (.int .i64 0) := (cellH HT5e.out 3).trans rfl
        have x4 : we.cell? ⟨w.heap.size, 4, none⟩ = some (.slice none 0 0) := (cellH HT5e.out 4).trans rfl
        have x5 : we.cell? ⟨w.heap.size, 5, none⟩ = some (.slice none 0 0) := (cellH HT5e.out 5).trans rfl
        have fz0 : we.frozen? ⟨w.heap.size, 0, none⟩ = false := frozenH HT5e.out 0
        have fz1 : we.frozen? ⟨w.heap.size, 1, none⟩ = false := frozenH HT5e.out 1
        have fz2 : we.frozen? ⟨w.heap.size, 2, none⟩ = false := frozenH HT5e.out 2
        have fz3 : we.frozen? ⟨w.heap.size, 3, none⟩ = false := frozenH HT5e.out 3
        have fz4 : we.frozen? ⟨w.heap.size, 4, none⟩ = false := frozenH HT5e.out 4
        have fz5 : we.frozen? ⟨w.heap.size, 5, none⟩ = false := frozenH HT5e.out 5
        have HU : Hid ((st6 we w.heap.size (⟨(s5, t5), d5, i5, pp5, pn5, pc5, qp5, qn5, qc5⟩ : Bh)).drew = ((((((we.setCell ⟨w.heap.size, 0, none⟩ (.int .i64 s5)).setCell ⟨w.heap.size, 1, none⟩ (.string t5)).setCell ⟨w.heap.size, 2, none⟩ (.int .i64 d5)).setCell ⟨w.heap.size, 3, none⟩ (.int .i64 i5)).setCell ⟨w.heap.size, 4, none⟩ (.slice pp5 pn5 pc5)).setCell ⟨w.heap.size, 5, none⟩ (.slice qp5 qn5 qc5)).drew) := Lib.hid rfl
        have HQ2 := Lib.hid (st6_same HT5e.out (⟨(s5, t5), d5, i5, pp5, pn5, pc5, qp5, qn5, qc5⟩ : Bh))
        have HZ : Hid (Below w.heap.size w (st6 we w.heap.size (⟨(s5, t5), d5, i5, pp5, pn5, pc5, qp5, qn5, qc5⟩ : Bh)).drew) := Lib.hid ((st6_below (HB1.out.trans (HBel.out.mono HB1.out.size)) (Nat.le_refl _) (⟨(s5, t5), d5, i5, pp5, pn5, pc5, qp5, qn5, qc5⟩ : Bh)).drew)
        clear hm
        rw [hk0]
        go_wp2_with fail
        go_region
        all_goals (
         go_wp2_with fail
         rw [← HU.out]
         have q2 := (drew_heap _ w.heap.size).trans HQ2.out
         clear HQ2
         clear x0 x1 x2 x3 x4 x5 fz0 fz1 fz2 fz3 fz4 fz5 HU
         generalize (st6 we w.heap.size (⟨(s5, t5), d5, i5, pp5, pn5, pc5, qp5, qn5, qc5⟩ : Bh)).drew = W3 at q2 HZ ⊢
         have y0 : W3.cell? ⟨w.heap.size, 0, none⟩ = some (.int .i64 s5) := (cellH q2 0).trans rfl
         have y1 : W3.cell? ⟨w.heap.size, 1, none⟩ = some (.string t5) := (cellH q2 1).trans rfl
         have y2 : W3.cell? ⟨w.heap.size, 2, none⟩ = some (.int .i64 d5) := (cellH q2 2).trans rfl
         have y3 : W3.cell? ⟨w.heap.size, 3, none⟩ = some (.int .i64 i5) := (cellH q2 3).trans rfl
         have y4 : W3.cell? ⟨w.heap.size, 4, none⟩ = some (.slice pp5 pn5 pc5) := (cellH q2 4).trans rfl
         have y5 : W3.cell? ⟨w.heap.size, 5, none⟩ = some (.slice qp5 qn5 qc5) := (cellH q2 5).trans rfl
         clear q2
         refine bodyPost_ret (by simp [results, Try.results11, go_sem, y0, y1, y2, y3, y4, y5, Result.andThen]; try rfl) rfl ?_
         exact HFIN.out _ trivial HZ.out)
       | ok lk =>
        have HLK : Hid (okL (mt a'.ps z.ps) = lk) := Lib.hid (by rw [hm]; rfl)
        have hk0 : isOk (Except.ok lk : Except Ky (List P2)) = true := rfl
        have HOKK : Hid (isOk (mt a'.ps z.ps) = true) := Lib.hid (by rw [hm]; rfl)
        have HPSx : Hid (PS we q5 n5 c5 (okL (mt a'.ps z.ps))) := Lib.hid HRX.out.ps
        have hn5 : n5 ≤ 4000 := by have h1 := HPSx.out.1; have h2 := okL_len (x := a'.ps) (y := z.ps); have h3 := HPS.out; omega
        have hrow := HRX.out.own
        have hlen : ((V.take k).flatMap (itmL mt m) ++ ownL a' z).length = no := by
         obtain ⟨q2, n2, c2, e1, e2⟩ := hrow.ps
         simp only [Value.slice.injEq] at e1
         have := e2.1
         omega
        unfold OwnP at hrow
        rw [hlen] at hrow
        have HROW := Lib.hid hrow
        have HLEN := Lib.hid hlen
        have hwe1 : w1.heap.size ≤ we.heap.size := HBel.out.size
        clear hm hrow hlen z0 z1 z2 z3 z4 z5
        rw [hk0]
        go_wp2_with (at_builtin; refine wpList_append_ps _ rfl _ _ 25 rfl w1.heap.size 48 i48 _ 16 Try.underlying25 hi48 hx0 hx1 hx2 rfl _ _ _ rfl HROW.out q5 n5 c5 _ rfl HPSx.out (by unfold maxLen; omega) (by omega) hwe1 ?_; intro v' w7 hown hgrow; have HO7 : Hid (OwnP 48 w7 w1.heap.size v' (((V.take k).flatMap (itmL mt m) ++ ownL a' z) ++ okL (mt a'.ps z.ps))) := Lib.hid (by unfold OwnP; rw [pcells_append, List.length_append, HLEN.out, ← HPSx.out.1]; exact hown); have HB7 := Lib.hid (HBel.out.grown hgrow hwe1 (fun j hj => (World.ownsRow.lt HROW.out j hj).1)); obtain ⟨q7, n7, c7, hv7, _⟩ := HO7.out.ps; subst hv7; clear hown hgrow)
        go_roundw
        case rel => exact ⟨k + 1, q7, n7, c7, by omega, by go_num, rfl, Lib.hid (by rw [HTK.out, HIT2.out, ← List.append_assoc]; exact HO7.out), HB7, Lib.hid (HPR2.out fun _ => HOKK.out)⟩
        case measure => simp [intOf]; omega
     ·have HIT2 : Hid (itmL mt m a' = ownL a' z) := Lib.hid (by rw [HIT.out, if_neg (by rw [← HKE.out]; exact h4), List.append_nil])
      have ht4 : (ks == 4) = false := by simp [h4]
      have HPR3 := Lib.hid (HPR2.out fun h => absurd h h4)
      clear h4
      go_wp2_with fail
      go_roundw
      case rel => exact ⟨k + 1, qo, no, co, by omega, by go_num, rfl, Lib.hid (by rw [HTK.out, HIT2.out]; exact HOc.out), HBWc, HPR3⟩
      case measure => simp [intOf]; omega

  ·have hkn : k = n1 := by omega
   have HOK : Hid (isOk (mt l m) = true ∧ okL (mt l m) = V.flatMap (itmL mt m)) := Lib.hid (by
    have h1 : isOk (mtL mt m V) = true := (mtL_ok V).2 fun c hc => by
     obtain ⟨i, hi⟩ := List.getElem?_of_mem hc
     exact HPR.out i c (by rw [hkn, HBN.out.1]; exact (List.getElem?_eq_some_iff.1 hi).1) hi
    refine ⟨by rw [HMT.out]; exact h1, by rw [HMT.out, mtL_flat V h1]; rfl⟩)
   have HOF : Hid (OwnP 48 wr w1.heap.size (.slice qo no co) (okL (mt l m))) := Lib.hid (by have := HO.out; rw [hkn, HBN.out.1, List.take_length] at this; rw [HOK.out.2]; exact this)
   have HT5r := Lib.hid (heap_step HT5.out HBW.out)
   have x0 : wr.cell? ⟨w.heap.size, 0, none⟩ = some (.int .i64 0) := (cellH HT5r.out 0).trans rfl
   have x1 : wr.cell? ⟨w.heap.size, 1, none⟩ = some (.string ⟨#[]⟩) := (cellH HT5r.out 1).trans rfl
   have x2 : wr.cell? ⟨w.heap.size, 2, none⟩ = some (.int .i64 0) := (cellH HT5r.out 2).trans rfl
   have x3 : wr.cell? ⟨w.heap.size, 3, none⟩ = some (.int .i64 0) := (cellH HT5r.out 3).trans rfl
   have x4 : wr.cell? ⟨w.heap.size, 4, none⟩ = some (.slice none 0 0) := (cellH HT5r.out 4).trans rfl
   have x5 : wr.cell? ⟨w.heap.size, 5, none⟩ = some (.slice none 0 0) := (cellH HT5r.out 5).trans rfl
   have fz0 : wr.frozen? ⟨w.heap.size, 0, none⟩ = false := frozenH HT5r.out 0
   have fz1 : wr.frozen? ⟨w.heap.size, 1, none⟩ = false := frozenH HT5r.out 1
   have fz2 : wr.frozen? ⟨w.heap.size, 2, none⟩ = false := frozenH HT5r.out 2
   have fz3 : wr.frozen? ⟨w.heap.size, 3, none⟩ = false := frozenH HT5r.out 3
   have fz4 : wr.frozen? ⟨w.heap.size, 4, none⟩ = false := frozenH HT5r.out 4
   have fz5 : wr.frozen? ⟨w.heap.size, 5, none⟩ = false := frozenH HT5r.out 5
   have q2 := st6_same HT5r.out bh0
   have HZ : Hid (Below w.heap.size w (st6 wr w.heap.size bh0)) := Lib.hid (st6_below (HB1.out.trans (HBW.out.mono HB1.out.size)) (Nat.le_refl _) bh0)
   have HOZ : Hid (OwnP 48 (st6 wr w.heap.size bh0) w.heap.size (.slice qo no co) (okL (mt l m))) := Lib.hid (by
    obtain ⟨hl, h0 | ⟨g, cc, cur, hv, hbb, hgg, hr⟩⟩ := HOF.out
    ·exact ⟨hl, .inl h0⟩
    ·exact ⟨hl, .inr ⟨g, cc, cur, hv, by omega, (st6_other wr (by omega) bh0).trans hgg, hr⟩⟩)
   have HU : Hid (st6 wr w.heap.size bh0 = (((((wr.setCell ⟨w.heap.size, 0, none⟩ (.int .i64 0)).setCell ⟨w.heap.size, 1, none⟩ (.string ⟨#[]⟩)).setCell ⟨w.heap.size, 2, none⟩ (.int .i64 0)).setCell ⟨w.heap.size, 3, none⟩ (.int .i64 0)).setCell ⟨w.heap.size, 4, none⟩ (.slice none 0 0)).setCell ⟨w.heap.size, 5, none⟩ (.slice none 0 0)) := Lib.hid rfl
   clear hkn
   have HQ2 := Lib.hid q2
   clear q2
   go_wp2_with fail
   have q2 := HQ2.out
   clear HQ2
   rw [← HU.out]
   clear x0 x1 x2 x3 x4 x5 fz0 fz1 fz2 fz3 fz4 fz5 HU
   generalize st6 wr w.heap.size bh0 = W3 at q2 HZ HOZ ⊢
   dsimp only [bh0] at q2
   have y0 : W3.cell? ⟨w.heap.size, 0, none⟩ = some (.int .i64 0) := (cellH q2 0).trans rfl
   have y1 : W3.cell? ⟨w.heap.size, 1, none⟩ = some (.string ⟨#[]⟩) := (cellH q2 1).trans rfl
   have y2 : W3.cell? ⟨w.heap.size, 2, none⟩ = some (.int .i64 0) := (cellH q2 2).trans rfl
   have y3 : W3.cell? ⟨w.heap.size, 3, none⟩ = some (.int .i64 0) := (cellH q2 3).trans rfl
   have y4 : W3.cell? ⟨w.heap.size, 4, none⟩ = some (.slice none 0 0) := (cellH q2 4).trans rfl
   have y5 : W3.cell? ⟨w.heap.size, 5, none⟩ = some (.slice none 0 0) := (cellH q2 5).trans rfl
   clear q2
   refine bodyPost_ret (by simp [results, Try.results11, go_sem, y0, y1, y2, y3, y4, y5, Result.andThen]; try rfl) rfl ?_
   exact ⟨qo, no, co, bh0, by rw [HOK.out.1]; rfl, HOZ.out, HZ.out, fun _ => rfl, fun k' hk' => by have := HOK.out.1; rw [hk'] at this; cases this⟩
end Go.Proofs.Ytagkpcnedccaiaa
