/-
  Whether a map carries a graph to another one (Carries), walked.
-/
import Derived.Test.YtggoajpemffbiaaCar
namespace Go.Proofs.Ytggoajpemffbiaa
open Go.RowKit
set_option maxRecDepth 20000
set_option linter.unusedVariables false
set_option linter.unusedSimpArgs false

/-- Does a map carry a graph to another one? -/
structure CarP (E : List Int) (L : List P2) (E2 : List Int) (L2 : List P2) (m : List Int) : Prop where
  ok : CarOk E L m
  edge : ∀ (i : Nat) (x e : Int), m[i]? = some x → x ≠ -1 → E[i]? = some e → E2[x.toNat]? = some (mAt m e)
  link : puts (L.map (mpP m)) = L2
theorem mpd_ne {m : List Int} {e : Int} (h : mpd m e = true) : mAt m e ≠ -1 := by
  obtain ⟨i, y, rfl, hy, hn⟩ := mpd_in h
  rw [mAt_at hy]; exact hn
theorem CarP.size {E E2 m : List Int} {L L2 : List P2} {S : Int} (h : CarP E L E2 L2 m) (hS : RoomIs m S) : S ≤ E2.length := by
  rcases hS.top with h0 | ⟨h0, h1⟩
  · omega
  · obtain ⟨i, hi⟩ := List.mem_iff_getElem?.1 h0
    obtain ⟨e, he⟩ : ∃ e, E[i]? = some e := ⟨_, List.getElem?_eq_getElem (by have := (List.getElem?_eq_some_iff.1 hi).1; have := h.ok.len; omega)⟩
    have := (List.getElem?_eq_some_iff.1 (h.edge i _ e hi h1 he)).1
    omega
theorem carp_no {E E2 m ed : List Int} {L L2 : List P2} {p : Nat} {y : Int} (hE : EdTo m E E.length ed) (hy : ed[p]? = some y) (hn : y ≠ -1) (h2 : E2[p]? ≠ some y) : ¬ CarP E L E2 L2 m := fun h => by
  obtain ⟨i, hi⟩ := hE.from_ p y hy hn
  have hil : i < E.length := by have := (List.getElem?_eq_some_iff.1 hi).1; have := h.ok.len; omega
  obtain ⟨e, he⟩ : ∃ e, E[i]? = some e := ⟨_, List.getElem?_eq_getElem hil⟩
  have h1 := hE.at_ i _ e hil hi (by omega) he
  have h3 := h.edge i _ e hi (by omega) he
  simp only [Int.toNat_natCast] at h1 h3
  rw [hy] at h1
  rw [← h1] at h3
  exact h2 h3
theorem carp_yes {E E2 m ed : List Int} {L L2 : List P2} (hO : CarOk E L m) (hE : EdTo m E E.length ed) (h : ∀ (p : Nat) (y : Int), ed[p]? = some y → y ≠ -1 → E2[p]? = some y) (hl : puts (L.map (mpP m)) = L2) : CarP E L E2 L2 m :=
  ⟨hO, fun i x e hi hn he => h _ _ (hE.at_ i x e (by exact (List.getElem?_eq_some_iff.1 he).1) hi hn he) (mpd_ne (hO.edge i x e hi hn he)), hl⟩
def CrsPost (w : World) (E : List Int) (L : List P2) (E2 : List Int) (L2 : List P2) (m : List Int) (e : Ending) (w' : World) : Prop :=
  ∃ b : Bool, e = .returned (.bool b) ∧ (b = true ↔ CarP E L E2 L2 m) ∧ Below w.heap.size w w'
set_option maxHeartbeats 16000000 in
theorem carries_any (g : Gr) (E : List Int) (L : List P2) (V : List Int) (h2 : Gr) (E2 : List Int) (L2 : List P2) (V2 : List Int) (qm : Option Addr) (nm cm : Nat) (m : List Int) (w : World) (h : GrIn w g E L V) (hh : GrIn w h2 E2 L2 V2) (hm : IS w qm nm cm m) (hwm : ∀ x ∈ m, W64 x) (hn : nm ≤ 100) (hl : g.nl ≤ 60) :
    Calls Try.prog 17 #[g.v, h2.v, .slice qm nm cm] w (CrsPost w E L E2 L2 m) := by
  have HG := Lib.hid h
  have HM := Lib.hid hm
  have HCA : Hid (∀ W, Below w.heap.size w W → Calls Try.prog 26 #[g.v, .slice qm nm cm] W (CarryPost W E L m)) := Lib.hid fun W hW => carry_any g E L V qm nm cm m W (h.step hW) (hm.step hW) hwm hn hl
  have hll : g.nl = L.length := h.l.1
  obtain ⟨qe, ne, ce, ql, nl, cl, qv, nv, cv⟩ := g
  obtain ⟨qe2, ne2, ce2, ql2, nl2, cl2, qv2, nv2, cv2⟩ := h2
  simp only [Gr.v] at *
  have b1 : Below w.heap.size w (w.alloc (.cells #[.slice qe ne ce, .slice ql nl cl, .slice qv nv cv] 25)) := (Below.refl _ _).alloc (Nat.le_refl _) _
  have e1 := heap_new w (.cells #[.slice qe ne ce, .slice ql nl cl, .slice qv nv cv] 25)
  have z1 : (w.alloc (.cells #[.slice qe ne ce, .slice ql nl cl, .slice qv nv cv] 25)).heap.size = w.heap.size + 1 := by simp
  have b2 : Below w.heap.size w ((w.alloc (.cells #[.slice qe ne ce, .slice ql nl cl, .slice qv nv cv] 25)).alloc (.cells #[.slice qe2 ne2 ce2, .slice ql2 nl2 cl2, .slice qv2 nv2 cv2] 25)) := b1.alloc b1.size _
  have e2 := heap_new (w.alloc (.cells #[.slice qe ne ce, .slice ql nl cl, .slice qv nv cv] 25)) (.cells #[.slice qe2 ne2 ce2, .slice ql2 nl2 cl2, .slice qv2 nv2 cv2] 25)
  rw [z1] at e2
  have e3 := heap_step e1 ((Below.refl _ _).alloc (Nat.le_refl _) (.cells #[.slice qe2 ne2 ce2, .slice ql2 nl2 cl2, .slice qv2 nv2 cv2] 25))
  have HIE2 : Hid (IS w qe2 ne2 ce2 E2) := Lib.hid hh.e
  have HIL2 : Hid (PS w ql2 nl2 cl2 L2) := Lib.hid hh.l
  have HLE2 : Hid (ne2 = E2.length) := Lib.hid hh.e.1
  have HLL : Hid (nl = L.length) := Lib.hid hll
  have HNL : Hid (nl ≤ 60) := Lib.hid hl
  have HB0 := Lib.hid b2
  have HC2 := Lib.hid (HCA.out _ b2)
  clear h hh hm hwm b1 e1 z1 b2 hll hl HCA
  go_enter Try.func17, Try.ntmps17
  go_upto_region 1 with fail
  generalize (w.alloc (.cells #[.slice qe ne ce, .slice ql nl cl, .slice qv nv cv] 25)).alloc (.cells #[.slice qe2 ne2 ce2, .slice ql2 nl2 cl2, .slice qv2 nv2 cv2] 25) = W2 at *
  obtain ⟨C, hC⟩ : ∃ C, C = w.heap.size + 1 := ⟨_, rfl⟩
  obtain ⟨B, hB⟩ : ∃ B, B = w.heap.size := ⟨_, rfl⟩
  rw [← hC] at e2 ⊢
  rw [← hB] at e3 ⊢
  have HXC := Lib.hid e2
  have c0 : W2.cell? ⟨B, 0, none⟩ = some (.slice qe ne ce) := (cellH e3 0).trans rfl
  have c1 : W2.cell? ⟨B, 1, none⟩ = some (.slice ql nl cl) := (cellH e3 1).trans rfl
  have c2 : W2.cell? ⟨B, 2, none⟩ = some (.slice qv nv cv) := (cellH e3 2).trans rfl
  clear hB hC e2 e3
  go_wp2_with fail
  refine HC2.out.mono ?_
  rintro x w3 ⟨⟨S, ed, q1, n1, c1', q2, n2, c2', rfl, hok, hrm, hS, hed, his, hps⟩ | ⟨rfl, hno⟩, hb3⟩
  · have HOK := Lib.hid hok
    have HRM := Lib.hid hrm
    have HS := Lib.hid hS
    have HED := Lib.hid hed
    have HIS := Lib.hid his
    have HPS := Lib.hid hps
    have HB3 := Lib.hid hb3
    have HW3 := Lib.hid (HB0.out.trans (hb3.mono HB0.out.size))
    have hn2 : n2 ≤ 60 := by
      have h1 := hps.1
      have h2 := puts_len (L.map (mpP m))
      have h3 := HLL.out
      have h4 := HNL.out
      simp at h2
      omega
    have HL1 : Hid (n1 = ed.length) := Lib.hid his.1
    have xc := heap_step HXC.out hb3
    have d0 : w3.cell? ⟨C, 0, none⟩ = some (.slice qe2 ne2 ce2) := (cellH xc 0).trans rfl
    clear hok hrm hS hed his hps hb3 c0 c1 c2 xc
    by_cases hlen : n1 ≤ ne2
    · have hlen2 : ¬ (ne2 : Int) < (n1 : Int) := by omega
      go_wp2_with fail
      clear d0 hlen2
      go_loopw [31] (fun i wr => ∃ k : Nat, k ≤ n1 ∧ i = .int .i64 k ∧ Hid (∀ (p : Nat) (y : Int), p < k → ed[p]? = some y → y ≠ -1 → E2[p]? = some y) ∧ Hid (Below w3.heap.size w3 wr)) (fun i _ => n1 - (intOf i).toNat)
      case atStart => exact ⟨0, by omega, rfl, Lib.hid (fun p y h => by omega), Lib.hid (Below.refl _ _)⟩
      case round =>
        obtain ⟨k, hk, rfl, HK, HBw⟩ := hrel
        have HBW := Lib.hid (HW3.out.trans (HBw.out.mono HW3.out.size))
        have xc := heap_step (heap_step HXC.out HB3.out) HBw.out
        by_cases hlt : k < n1
        · obtain ⟨hxx, h0 | ⟨g1, o1, rfl, hc1, hg1, hat1⟩⟩ := HIS.out
          · omega
          obtain ⟨hxy, h0 | ⟨g2, o2, rfl, hc2, hg2, hat2⟩⟩ := HIE2.out
          · omega
          clear hxx hxy
          obtain ⟨y, hy⟩ : ∃ y, ed[k]? = some y := ⟨_, List.getElem?_eq_getElem (by have := HL1.out; omega)⟩
          obtain ⟨z, hz⟩ : ∃ z, E2[k]? = some z := ⟨_, List.getElem?_eq_getElem (by have := HLE2.out; omega)⟩
          have c0 := (HBw.out.cell (p := ⟨g1, o1 + k, none⟩) hg1).trans (hat1 k y hy)
          have c1 := (HBW.out.cell (p := ⟨g2, o2 + k, none⟩) hg2).trans (hat2 k z hz)
          have d0 : wr.cell? ⟨C, 0, none⟩ = some (.slice (some ⟨g2, o2, none⟩) ne2 ce2) := (cellH xc 0).trans rfl
          have r1 : (0 : Int) ≤ (k : Int) := by omega
          have r2 : (k : Int) < (n1 : Int) := by omega
          have r3 : (k : Int) < (ne2 : Int) := by omega
          have hk1 : IntKind.i64.wrap ((k : Int) + 1) = (k : Int) + 1 := IntWalk.i64_in _ (by have := HRM.out.le; have := HS.out; omega)
          have HY := Lib.hid hy
          have HZ := Lib.hid hz
          clear hat1 hat2 hy hz xc
          by_cases hy1 : y = -1
          · have hb : (y != -1) = false := by simp [hy1]
            have HK2 : Hid (∀ (p : Nat) (y : Int), p < k + 1 → ed[p]? = some y → y ≠ -1 → E2[p]? = some y) := Lib.hid fun p v hp hv hn => by
              by_cases hpk : p = k
              · subst hpk; rw [HY.out] at hv; cases hv; exact absurd hy1 hn
              · exact HK.out p v (by omega) hv hn
            clear hy1
            go_wp2_with fail
            go_roundw
            case rel => exact ⟨k + 1, by omega, by go_num, HK2, HBw⟩
            case measure => simp [intOf]; omega
          · have hb : (y != -1) = true := by simpa using hy1
            by_cases hyz : z = y
            · have hb2 : (z != y) = false := by simp [hyz]
              have HK2 : Hid (∀ (p : Nat) (y : Int), p < k + 1 → ed[p]? = some y → y ≠ -1 → E2[p]? = some y) := Lib.hid fun p v hp hv hn => by
                by_cases hpk : p = k
                · subst hpk; rw [HY.out] at hv; cases hv; rw [HZ.out, hyz]
                · exact HK.out p v (by omega) hv hn
              clear hy1 hyz
              go_wp2_with fail
              go_roundw
              case rel => exact ⟨k + 1, by omega, by go_num, HK2, HBw⟩
              case measure => simp [intOf]; omega
            · have hb2 : (z != y) = true := by simpa using hyz
              have HNO : Hid (¬ CarP E L E2 L2 m) := Lib.hid (carp_no HED.out HY.out hy1 (by rw [HZ.out]; simpa using hyz))
              clear hy1 hyz
              go_wp2_with fail
              go_ret
              exact ⟨false, rfl, by simp [HNO.out], HBW.out⟩
        · have hkn : k = n1 := by omega
          have HKA : Hid (∀ (p : Nat) (y : Int), ed[p]? = some y → y ≠ -1 → E2[p]? = some y) := Lib.hid fun p y hp hn => HK.out p y (by have := (List.getElem?_eq_some_iff.1 hp).1; have := HL1.out; omega) hp hn
          have d1 : wr.cell? ⟨C, 1, none⟩ = some (.slice ql2 nl2 cl2) := (cellH xc 1).trans rfl
          have HPQ := Lib.hid (pairs_any q2 ql2 n2 nl2 c2' cl2 (puts (L.map (mpP m))) L2 wr (HPS.out.step HBw.out) (HIL2.out.step HBW.out) (by omega))
          clear hkn xc
          go_wp2_with fail
          refine HPQ.out.mono ?_
          rintro z w6 ⟨rfl, hb6⟩
          have HB6 := Lib.hid (HBW.out.trans (hb6.mono HBW.out.size))
          clear hb6
          have HFIN : Hid (∀ b : Bool, b = decide (puts (L.map (mpP m)) = L2) → (b = true ↔ CarP E L E2 L2 m)) := Lib.hid fun b hb => by
            rw [hb]
            constructor
            · intro h; exact carp_yes HOK.out HED.out HKA.out (of_decide_eq_true h)
            · intro h; exact decide_eq_true h.link
          generalize hgb : decide (puts (L.map (mpP m)) = L2) = b
          have HGB := Lib.hid hgb
          clear hgb
          go_wp2_with fail
          go_ret
          exact ⟨b, rfl, HFIN.out b HGB.out.symm, HB6.out⟩
    · have hlen2 : (ne2 : Int) < (n1 : Int) := by omega
      have HNO : Hid (¬ CarP E L E2 L2 m) := Lib.hid fun hc => by
        have h1 := hc.size HRM.out
        have h2 := HS.out
        have h3 := HLE2.out
        omega
      clear hlen
      go_wp2_with fail
      go_ret
      exact ⟨false, rfl, by simp [HNO.out], HW3.out⟩
  · have HNO : Hid (¬ CarP E L E2 L2 m) := Lib.hid fun hc => hno hc.ok
    have HB3 := Lib.hid (HB0.out.trans (hb3.mono HB0.out.size))
    clear hno hb3 c0 c1 c2
    go_wp2_with fail
    go_ret
    exact ⟨false, rfl, by simp [HNO.out], HB3.out⟩
end Go.Proofs.Ytggoajpemffbiaa
