/-
  Family, walked.
-/
import Derived.Test.YtggoajpemffbiaaRch
import Derived.Deep.CutRange
import Derived.Deep.RegionWith
namespace Go.Proofs.Ytggoajpemffbiaa
open Go.RowKit
set_option maxRecDepth 20000
set_option linter.unusedVariables false
set_option linter.unusedSimpArgs false

set_option maxHeartbeats 4000000 in
theorem fam1_any (i : Nat) (x : Int) (bx gb mb : Nat) (q : Option Addr) (n c : Nat) (E : List Int) (ks : List Int) (w : World)
    (hb : w.heap[bx]? = some (.cells #[.map (some mb)] 48 (0, 0))) (hg : w.cell? ⟨gb, 0, none⟩ = some (.slice q n c)) (hE : IS w q n c E) (hi : E[i]? = some x) (hn : n ≤ 1000) (hS : SetI w mb ks) (hx : W64 x) :
    Calls Try.prog 24 #[.int .i64 i, .pointer (some ⟨bx, 0, none⟩), .pointer (some ⟨gb, 0, none⟩)] w fun e w' => e = .returned (.bool (inI ks x)) ∧ Below w.heap.size w w' := by
  have hin : i < n := by have := (List.getElem?_eq_some_iff.1 hi).1; have := hE.1; omega
  obtain ⟨hlen, h0 | ⟨g, o, rfl, hc, hgl, hat⟩⟩ := hE
  · omega
  clear hlen
  have c0 := hat i x hi
  have b0 : w.cell? ⟨bx, 0, none⟩ = some (.map (some mb)) := (cellH hb 0).trans rfl
  have hbl := heap_lt hb
  have hgb : gb < w.heap.size := World.block_lt_of_cell? w _ hg
  have r1 : (0 : Int) ≤ (i : Int) := by omega
  have r2 : (i : Int) < (n : Int) := by omega
  have l1 := (hS.step (Below.refl w.heap.size w).drew).look hx
  have l2 : Sem.run Try.prog (Instr.lookup 48 (.map (some mb)) (.int .i64 x) true) (w.alloc (.cells #[] 51)).drew = .ok (.tuple #[.agg #[], .bool (inI ks x)]) (w.alloc (.cells #[] 51)).drew := (hS.step (((Below.refl w.heap.size w).alloc (Nat.le_refl _) (.cells #[] 51)).drew)).look hx
  have HB := Lib.hid (((Below.refl w.heap.size w).alloc (Nat.le_refl _) (.cells #[] 51)).drew)
  generalize inI ks x = b at *
  clear hat hS hx hi
  go_enter Try.func24, Try.ntmps24
  go_wp2_with fail
  go_region
  all_goals
    go_wp2_with fail
    go_ret
    exact ⟨rfl, HB.out⟩
/-- Of the numbers of edges those that lead to what a leads to. -/
def famN (E : List Int) (L : List P2) (a : Int) : List Int := selN (fun i => match E[i]? with | some x => inI (meets L a (L.length + 1)) x | none => false) E.length
/-- The family of an occurrence. -/
def famO (E : List Int) (L : List P2) (occ : Int) : List Int := if 0 ≤ occ ∧ occ < E.length then (match E[occ.toNat]? with | some a => famN E L a | none => []) else []
/-- A graph's three rows. -/
structure Gr where
  qe : Option Addr
  ne : Nat
  ce : Nat
  ql : Option Addr
  nl : Nat
  cl : Nat
  qv : Option Addr
  nv : Nat
  cv : Nat
def Gr.v (g : Gr) : Value := .agg #[.slice g.qe g.ne g.ce, .slice g.ql g.nl g.cl, .slice g.qv g.nv g.cv]
structure GrIn (w : World) (g : Gr) (E : List Int) (L : List P2) (V : List Int) : Prop where
  e : IS w g.qe g.ne g.ce E
  l : PS w g.ql g.nl g.cl L
  v : IS w g.qv g.nv g.cv V
  we : ∀ x ∈ E, W64 x
  wl : ∀ p ∈ L, W64 p.1 ∧ W64 p.2
  wv : ∀ x ∈ V, W64 x
theorem GrIn.step {w w1 : World} {g : Gr} {E : List Int} {L : List P2} {V : List Int} (h : GrIn w g E L V) (hw : Below w.heap.size w w1) : GrIn w1 g E L V :=
  ⟨h.e.step hw, h.l.step hw, h.v.step hw, h.we, h.wl, h.wv⟩
set_option maxHeartbeats 4000000 in
theorem family_any (g : Gr) (E : List Int) (L : List P2) (V : List Int) (occ : Int) (w : World) (h : GrIn w g E L V) (hn : g.ne ≤ 100) (hln : g.nl ≤ 60) (ho : W64 occ) :
    Calls Try.prog 12 #[g.v, .int .i64 occ] w fun e w' => ∃ v, e = .returned v ∧ OwnI w' w.heap.size v (famO E L occ) ∧ Below w.heap.size w w' := by
  have hle : g.ne = E.length := h.e.1
  by_cases hin : 0 ≤ occ ∧ occ < E.length
  · obtain ⟨a, ha⟩ : ∃ a, E[occ.toNat]? = some a := ⟨_, List.getElem?_eq_getElem (by omega)⟩
    have HF : Hid (famO E L occ = famN E L a) := Lib.hid (by unfold famO; rw [if_pos hin, ha])
    obtain ⟨i, hi⟩ : ∃ i : Nat, occ = (i : Int) := ⟨occ.toNat, by omega⟩
    subst hi
    simp only [Int.toNat_natCast] at ha
    have HE := Lib.hid h.e
    have HL := Lib.hid h.l
    have HWE := Lib.hid h.we
    have HWL := Lib.hid h.wl
    have hN : Hid (g.ne = E.length) := Lib.hid hle
    have hig : i < g.ne := by omega
    obtain ⟨hxx, h0 | ⟨gb, o, hq, hc, hgl, hat⟩⟩ := h.e
    · omega
    have c0 := hat i a ha
    clear hat h hin hxx
    obtain ⟨qe, ne, ce, ql, nl, cl, qv, nv, cv⟩ := g
    simp only [Gr.v] at *
    subst hq
    have HA := Lib.hid ha
    have HAW := Lib.hid (HWE.out a (List.mem_of_getElem? ha))
    clear ha hle
    have e1 := heap_new w (.cells #[.slice (some ⟨gb, o, none⟩) ne ce, .slice ql nl cl, .slice qv nv cv] 25)
    have b1 : Below w.heap.size w (w.alloc (.cells #[.slice (some ⟨gb, o, none⟩) ne ce, .slice ql nl cl, .slice qv nv cv] 25)) := (Below.refl _ _).alloc (Nat.le_refl _) _
    have r1 : (0 : Int) ≤ (i : Int) := by omega
    have r2 : (i : Int) < (ne : Int) := by omega
    have r3 : ¬ (ne : Int) ≤ (i : Int) := by omega
    have HB1 := Lib.hid b1
    have HX := Lib.hid e1
    have k0 := (b1.cell (p := ⟨gb, o + i, none⟩) hgl).trans c0
    clear c0
    have HN := Lib.hid (b1.size)
    have HL1 := Lib.hid (HL.out.step b1)
    have HE1 := Lib.hid (HE.out.step b1)
    go_enter Try.func12, Try.ntmps12
    go_upto_region 3 with fail
    generalize w.alloc (.cells #[.slice (some ⟨gb, o, none⟩) ne ce, .slice ql nl cl, .slice qv nv cv] 25) = W1 at *
    obtain ⟨B, hB⟩ : ∃ B, B = w.heap.size := ⟨_, rfl⟩
    rw [← hB] at e1 HX ⊢
    clear hB
    go_cut [5] from 15 to 22 (fun v5 wx => ∃ (bx mb : Nat) (ks : List Int), v5 = .pointer (some ⟨bx, 0, none⟩) ∧ Hid (wx.heap[bx]? = some (.cells #[.map (some mb)] 48 (0, 0))) ∧ Hid (SetI wx mb ks) ∧ Hid (∀ x, x ∈ ks ↔ Cn L a x) ∧ Hid (Below w.heap.size w wx) ∧ Hid (wx.heap[B]? = some (.cells #[.slice (some ⟨gb, o, none⟩) ne ce, .slice ql nl cl, .slice qv nv cv] 25 (0, 0))))
    case first =>
      have hb0 : W1.cell? ⟨B, 0, none⟩ = some (.slice (some ⟨gb, o, none⟩) ne ce) := (cellH e1 0).trans rfl
      have hb1 : W1.cell? ⟨B, 1, none⟩ = some (.slice ql nl cl) := (cellH e1 1).trans rfl
      have hBl := heap_lt e1
      have hgl2 : gb < W1.heap.size := Nat.lt_of_lt_of_le hgl HB1.out.size
      have hdA : Below W1.heap.size W1 W1.drew := (Below.refl _ _).drew
      have hdB : Below W1.heap.size W1 (W1.alloc (.cells #[.map none] 48)).drew := ((Below.refl _ _).alloc (Nat.le_refl _) _).drew
      have HDA := Lib.hid hdA
      have HDB := Lib.hid hdB
      have HCA := Lib.hid (reached_any ql nl cl L a W1.drew (HL1.out.step hdA) hln HWL.out HAW.out)
      have HCB := Lib.hid (reached_any ql nl cl L a (W1.alloc (.cells #[.map none] 48)).drew (HL1.out.step hdB) hln HWL.out HAW.out)
      have HNX : Hid ((W1.alloc (.cells #[.map none] 48)).drew.heap[W1.heap.size]? = some (.cells #[.map none] 48 (0, 0))) := Lib.hid (heap_new W1 _)
      clear hdA hdB b1 e1
      have HKP : Hid (∀ W, Below W1.heap.size W1 W → W.cell? ⟨B, 0, none⟩ = some (.slice (some ⟨gb, o, none⟩) ne ce) ∧ W.cell? ⟨B, 1, none⟩ = some (.slice ql nl cl) ∧ W.cell? ⟨gb, o + i, none⟩ = some (.int .i64 a)) := Lib.hid fun W hW => ⟨(hW.cell (p := ⟨B, 0, none⟩) hBl).trans hb0, (hW.cell (p := ⟨B, 1, none⟩) hBl).trans hb1, (hW.cell (p := ⟨gb, o + i, none⟩) hgl2).trans k0⟩
      have hb0d : W1.drew.cell? ⟨B, 0, none⟩ = some (.slice (some ⟨gb, o, none⟩) ne ce) := hb0
      have hb1d : W1.drew.cell? ⟨B, 1, none⟩ = some (.slice ql nl cl) := hb1
      have k0d : W1.drew.cell? ⟨gb, o + i, none⟩ = some (.int .i64 a) := k0
      go_region_held3 (fun w' => w'.cell? ⟨B, 0, none⟩ = some (.slice (some ⟨gb, o, none⟩) ne ce) ∧ w'.cell? ⟨B, 1, none⟩ = some (.slice ql nl cl) ∧ w'.cell? ⟨gb, o + i, none⟩ = some (.int .i64 a)) (first | exact ⟨hb0, hb1, k0⟩ | exact ⟨hb0d, hb1d, k0d⟩ | exact HKP.out _ HBA.out | exact HKP.out _ HFN.out | go_keep) (first
        | (go_at_call 22; (with_reducible refine Calls.mono HCA.out ?_); rintro e w2 ⟨mb, ks, rfl, hs, hk, hb⟩; have HS := Lib.hid hs; have HK := Lib.hid hk; have HBA := Lib.hid (HDA.out.trans hb); have hsz : W1.heap.size ≤ w2.heap.size := HBA.out.size; have HFN := Lib.hid (HBA.out.alloc HBA.out.size (.cells #[.map (some mb)] 48)); clear hs hk hb)
        | (go_at_call 22; (with_reducible refine Calls.mono HCB.out ?_); rintro e w2 ⟨mb, ks, rfl, hs, hk, hb⟩; have HS := Lib.hid hs; have HK := Lib.hid hk; have HBA := Lib.hid (HDB.out.trans (hb.mono HDB.out.size)); have HXN := Lib.hid (heap_step HNX.out hb); have hsz : W1.heap.size ≤ w2.heap.size := HBA.out.size; have hlt : W1.heap.size < w2.heap.size := heap_lt HXN.out; have fz := box_frozen HXN.out 0; have cz : w2.cell? ⟨W1.heap.size, 0, none⟩ = some (.map none) := (cellH HXN.out 0).trans rfl; have HFN := Lib.hid (HBA.out.setCell (p := ⟨W1.heap.size, 0, none⟩) (Nat.le_refl _) (.map (some mb))); clear hs hk hb))
      all_goals (
        go_wp2_with fail
        go_meet
        first
          | (have hx := HXN.out; exact ⟨W1.heap.size, mb, ks, rfl, Lib.hid (box_set hx), Lib.hid (HS.out.wr (Wr.set _ 0 _ w2) (fun e => MapI.nocell HS.out (by rw [e]; exact hx))), HK, Lib.hid (HB1.out.trans (HFN.out.mono HB1.out.size)), Lib.hid (heap_step HX.out HFN.out)⟩)
          | exact ⟨w2.heap.size, mb, ks, rfl, Lib.hid (heap_new w2 _), Lib.hid (HS.out.step ((Below.refl _ _).alloc (Nat.le_refl _) _)), HK, Lib.hid (HB1.out.trans (HFN.out.mono HB1.out.size)), Lib.hid (heap_step HX.out HFN.out)⟩)
    case rest =>
      obtain ⟨bx, mb, ks, rfl, HXB, HS, HK, HBW, HXG⟩ := hcut
      clear b1 e1 HX HB1 HL1 HE1 HN k0
      have HT := Lib.hid (those_any 24 #[.pointer (some ⟨bx, 0, none⟩), .pointer (some ⟨B, 0, none⟩)] (fun i => match E[i]? with | some x => inI (meets L a (L.length + 1)) x | none => false) ne ne wc (by omega) (.inl rfl) cf24 (fun j W hj hW => by
        obtain ⟨x, hx⟩ : ∃ x, E[j]? = some x := ⟨_, List.getElem?_eq_getElem (by have := hN.out; omega)⟩
        have hks : inI (meets L a (L.length + 1)) x = inI ks x := by
          have h1 := meets_iff L a x
          have h2 := inI_iff ks x
          rw [HK.out x] at h2
          cases p : inI (meets L a (L.length + 1)) x <;> cases q : inI ks x <;> simp [p, q] at h1 h2 <;> simp_all
        simp only [hx, hks]
        exact fam1_any j x bx B mb _ ne ce E ks W (heap_step HXB.out hW) ((cellH (heap_step HXG.out hW) 0).trans rfl) ((HE.out.step HBW.out).step hW) hx (by omega) (HS.out.step hW) (HWE.out x (List.mem_of_getElem? hx))))
      have hg0 : wc.cell? ⟨B, 0, none⟩ = some (.slice (some ⟨gb, o, none⟩) ne ce) := (cellH HXG.out 0).trans rfl
      have HFN : Hid (famO E L (i : Int) = selN (fun i => match E[i]? with | some x => inI (meets L a (L.length + 1)) x | none => false) ne) := Lib.hid (by rw [HF.out, hN.out]; rfl)
      go_wp2_with (go_at_call 23; refine HT.out.mono ?_; rintro e w3 ⟨v, rfl, ho3, hb3⟩; have HO3 := Lib.hid (ho3.base (b' := w.heap.size) HBW.out.size); have HB3 := Lib.hid (HBW.out.trans (hb3.mono HBW.out.size)); clear ho3 hb3)
      go_ret
      exact ⟨_, rfl, by rw [HFN.out]; exact HO3.out, HB3.out⟩
  · have HF : Hid (famO E L occ = []) := Lib.hid (by unfold famO; rw [if_neg hin])
    obtain ⟨qe, ne, ce, ql, nl, cl, qv, nv, cv⟩ := g
    simp only [Gr.v] at *
    have HB1 : Hid (Below w.heap.size w (w.alloc (.cells #[.slice qe ne ce, .slice ql nl cl, .slice qv nv cv] 25))) := Lib.hid ((Below.refl _ _).alloc (Nat.le_refl _) _)
    rw [← hle] at hin
    clear h hle
    by_cases h1 : occ < 0
    · clear hin
      go_enter Try.func12, Try.ntmps12
      go_wp2_with fail
      go_ret
      exact ⟨_, rfl, by rw [HF.out]; exact OwnI.nil _ _, HB1.out⟩
    · have h2 : (ne : Int) ≤ occ := by omega
      clear hin
      go_enter Try.func12, Try.ntmps12
      go_wp2_with fail
      go_ret
      exact ⟨_, rfl, by rw [HF.out]; exact OwnI.nil _ _, HB1.out⟩
end Go.Proofs.Ytggoajpemffbiaa
