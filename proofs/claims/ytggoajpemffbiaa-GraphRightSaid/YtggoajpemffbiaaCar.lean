/-
  A graph carried by a map (Carry), walked.
-/
import Derived.Test.YtggoajpemffbiaaMpd
import Derived.Test.YtggoajpemffbiaaLnw
namespace Go.Proofs.Ytggoajpemffbiaa
open Go.RowKit
set_option maxRecDepth 20000
set_option linter.unusedVariables false
set_option linter.unusedSimpArgs false

/-- Is a graph carried by a map at all? -/
structure CarOk (E : List Int) (L : List P2) (m : List Int) : Prop where
  len : m.length = E.length
  room : RoomOk m
  edge : ∀ (i : Nat) (x e : Int), m[i]? = some x → x ≠ -1 → E[i]? = some e → mpd m e = true
  link : ∀ p ∈ L, mpd m p.1 = true ∧ mpd m p.2 = true
/-- The edges behind the first k. -/
structure EdTo (m E : List Int) (k : Nat) (ed : List Int) : Prop where
  at_ : ∀ (i : Nat) (x e : Int), i < k → m[i]? = some x → x ≠ -1 → E[i]? = some e → ed[x.toNat]? = some (mAt m e)
  from_ : ∀ (p : Nat) (y : Int), ed[p]? = some y → y ≠ -1 → ∃ i : Nat, m[i]? = some (p : Int)
def mpP (m : List Int) (p : P2) : P2 := (mAt m p.1, mAt m p.2)
theorem EdTo.start (m E : List Int) (N : Nat) : EdTo m E 0 (List.replicate N (-1)) := ⟨fun i x e h => by omega, fun p y h hn => by
  have := List.eq_of_mem_replicate (List.mem_of_getElem? h)
  exact absurd this hn⟩
theorem EdTo.skip {m E : List Int} {k : Nat} {ed : List Int} (h : EdTo m E k ed) (hk : m[k]? = some (-1)) : EdTo m E (k + 1) ed := ⟨fun i x e hi hx hn he => by
  by_cases hik : i = k
  · subst hik; rw [hk] at hx; cases hx; exact absurd rfl hn
  · exact h.at_ i x e (by omega) hx hn he, h.from_⟩
theorem EdTo.put {m E : List Int} {k : Nat} {ed : List Int} {x e : Int} (h : EdTo m E k ed) (hr : RoomOk m) (hk : m[k]? = some x) (hn : x ≠ -1) (he : E[k]? = some e) (hl : x.toNat < ed.length) : EdTo m E (k + 1) (ed.set x.toNat (mAt m e)) := by
  have h0 : 0 ≤ x := by rcases hr.1 x (List.mem_of_getElem? hk) with e | e <;> omega
  refine ⟨fun i y f hi hy hne hf => ?_, fun p y hp hne => ?_⟩
  · by_cases hik : i = k
    · subst hik
      rw [hk] at hy; cases hy
      rw [he] at hf; cases hf
      rw [List.getElem?_set, if_pos rfl, if_pos hl]
    · have hxy : x.toNat ≠ y.toNat := fun e2 => by
        have hy0 : 0 ≤ y := by rcases hr.1 y (List.mem_of_getElem? hy) with e | e <;> omega
        have : x = y := by omega
        subst this
        exact hik (hr.2 i k x hy hk hn)
      rw [List.getElem?_set, if_neg hxy]
      exact h.at_ i y f (by omega) hy hne hf
  · rw [List.getElem?_set] at hp
    split at hp
    · rename_i e2
      exact ⟨k, by rw [hk, ← e2]; congr 1; omega⟩
    · exact h.from_ p y hp hne
def CarryPost (w : World) (E : List Int) (L : List P2) (m : List Int) (e : Ending) (w' : World) : Prop :=
  ((∃ (S : Int) (ed : List Int) (q1 : Option Addr) (n1 c1 : Nat) (q2 : Option Addr) (n2 c2 : Nat), e = .returned (.tuple #[.slice q1 n1 c1, .slice q2 n2 c2, .bool true]) ∧ CarOk E L m ∧ RoomIs m S ∧ S = n1 ∧ EdTo m E E.length ed ∧ IS w' q1 n1 c1 ed ∧ PS w' q2 n2 c2 (puts (L.map (mpP m)))) ∨
    (e = .returned (.tuple #[.slice none 0 0, .slice none 0 0, .bool false]) ∧ ¬ CarOk E L m)) ∧ Below w.heap.size w w'
theorem RowP.step {w w1 : World} {g : Nat} {l : List P2} (h : RowP w g l) (hw : Below w.heap.size w w1) : RowP w1 g l :=
  ⟨Nat.lt_of_lt_of_le h.lt hw.size, fun i p hi => ⟨(hw.cell (p := ⟨g, _, none⟩) h.lt).trans (h.at_ i p hi).1, (hw.cell (p := ⟨g, _, none⟩) h.lt).trans (h.at_ i p hi).2⟩, fun j hj => (World.frozen?_of_block (hw.block g h.lt)).trans (h.fz j hj)⟩
theorem madeP_get (n j : Nat) (h : j < n * 2) : ((madeCells (Value.agg #[.int .i64 0, .int .i64 0]).cells (n * 2)).toList)[j]? = some (.int .i64 0) := by
  have e : (Value.agg #[.int .i64 0, .int .i64 0]).cells = #[Value.int .i64 0, .int .i64 0] := rfl
  rw [e]
  unfold madeCells
  rw [Array.getElem?_toList, Array.getElem?_map]
  simp only [Array.getElem?_range, h, if_true, Option.map_some, Option.some.injEq]
  rcases Nat.lt_or_ge (j % 2) 1 with h1 | h1
  · rw [show (#[Value.int .i64 0, .int .i64 0] : Array Value).size = 2 from rfl, show j % 2 = 0 by omega]; rfl
  · rw [show (#[Value.int .i64 0, .int .i64 0] : Array Value).size = 2 from rfl, show j % 2 = 1 by omega]; rfl
theorem made_row {w : World} {base g n : Nat} (h : w.ownsRow base 40 2 (.slice (some ⟨g, 0, none⟩) n n) n (madeCells (Value.agg #[.int .i64 0, .int .i64 0]).cells (n * 2)).toList) : RowP w g (List.replicate n (0, 0)) := by
  refine ⟨(World.ownsRow.lt h g rfl).2, fun i p hi => ?_, fun j _ => World.ownsRow.frozenAt h j⟩
  have hin : i < n := by have := (List.getElem?_eq_some_iff.1 hi).1; simpa using this
  have hp : p = (0, 0) := List.eq_of_mem_replicate (List.mem_of_getElem? hi)
  subst hp
  exact ⟨by rw [h.cellAt (i * 2) (by omega)]; exact madeP_get n _ (by omega), by rw [h.cellAt (i * 2 + 1) (by omega)]; exact madeP_get n _ (by omega)⟩
theorem RowP.ps {w : World} {g : Nat} {l : List P2} {n : Nat} (h : RowP w g l) (hn : n = l.length) : PS w (some ⟨g, 0, none⟩) n n l :=
  ⟨hn, .inr ⟨g, 0, rfl, Nat.le_refl _, h.lt, fun i p hi => by simpa using h.at_ i p hi⟩⟩
/-- The first k links are mapped. -/
def LkTo (m : List Int) (L : List P2) (k : Nat) (ll : List P2) : Prop := ll.length = L.length ∧ ∀ j p, j < k → L[j]? = some p → ll[j]? = some (mpP m p)
theorem LkTo.put {m : List Int} {L : List P2} {k : Nat} {ll : List P2} {p : P2} (h : LkTo m L k ll) (hp : L[k]? = some p) : LkTo m L (k + 1) (ll.set k (mpP m p)) := by
  refine ⟨by simp [h.1], fun j q hj hq => ?_⟩
  have hkl : k < ll.length := by have := (List.getElem?_eq_some_iff.1 hp).1; rw [h.1]; exact this
  rw [List.getElem?_set]
  by_cases hjk : k = j
  · subst hjk; rw [if_pos rfl, if_pos hkl]; rw [hp] at hq; cases hq; rfl
  · rw [if_neg hjk]; exact h.2 j q (by omega) hq
theorem LkTo.all {m : List Int} {L : List P2} {ll : List P2} (h : LkTo m L L.length ll) : ll = L.map (mpP m) := by
  apply List.ext_getElem?
  intro i
  by_cases hi : i < L.length
  · obtain ⟨p, hp⟩ : ∃ p, L[i]? = some p := ⟨_, List.getElem?_eq_getElem hi⟩
    rw [h.2 i p hi hp, List.getElem?_map, hp]; rfl
  · rw [List.getElem?_eq_none (by rw [h.1]; omega), List.getElem?_eq_none (by simp; omega)]
set_option maxHeartbeats 16000000 in
theorem carry_any (g : Gr) (E : List Int) (L : List P2) (V : List Int) (qm : Option Addr) (nm cm : Nat) (m : List Int) (w : World) (h : GrIn w g E L V) (hm : IS w qm nm cm m) (hwm : ∀ x ∈ m, W64 x) (hn : nm ≤ 100) (hl : g.nl ≤ 60) :
    Calls Try.prog 26 #[g.v, .slice qm nm cm] w (CarryPost w E L m) := by
  obtain ⟨i3, hi3, hz0, hz1, hz2⟩ := info_parts info3
  obtain ⟨qe, ne, ce, ql, nl, cl, qv, nv, cv⟩ := g
  simp only [Gr.v] at *
  have b1 : Below w.heap.size w (w.alloc (.cells #[.slice qe ne ce, .slice ql nl cl, .slice qv nv cv] 25)) := (Below.refl _ _).alloc (Nat.le_refl _) _
  have e1 := heap_new w (.cells #[.slice qe ne ce, .slice ql nl cl, .slice qv nv cv] 25)
  have z1 : (w.alloc (.cells #[.slice qe ne ce, .slice ql nl cl, .slice qv nv cv] 25)).heap.size = w.heap.size + 1 := by simp
  have b2 : Below w.heap.size w ((w.alloc (.cells #[.slice qe ne ce, .slice ql nl cl, .slice qv nv cv] 25)).alloc (.cells #[.slice qm nm cm] 22)) := b1.alloc b1.size _
  have e2 := heap_new (w.alloc (.cells #[.slice qe ne ce, .slice ql nl cl, .slice qv nv cv] 25)) (.cells #[.slice qm nm cm] 22)
  rw [z1] at e2
  have e3 := heap_step e1 ((Below.refl _ _).alloc (Nat.le_refl _) (.cells #[.slice qm nm cm] 22))
  have HIE : Hid (IS w qe ne ce E) := Lib.hid h.e
  have HIL : Hid (PS w ql nl cl L) := Lib.hid h.l
  have hl : nl ≤ 60 := hl
  have HWE := Lib.hid h.we
  have HWL := Lib.hid h.wl
  have HIM := Lib.hid hm
  have HWM := Lib.hid hwm
  have HLE : Hid (ne = E.length) := Lib.hid h.e.1
  have HLL : Hid (nl = L.length) := Lib.hid h.l.1
  have HLM := Lib.hid hm.1
  have HB0 := Lib.hid b2
  clear h hm hwm b1 e1 z1 b2
  by_cases hlen : nm = ne
  · subst hlen
    go_enter Try.func26, Try.ntmps26
    go_upto_region 1 with fail
    generalize (w.alloc (.cells #[.slice qe nm ce, .slice ql nl cl, .slice qv nv cv] 25)).alloc (.cells #[.slice qm nm cm] 22) = W2 at *
    obtain ⟨B, hB⟩ : ∃ B, B = w.heap.size := ⟨_, rfl⟩
    obtain ⟨C, hC⟩ : ∃ C, C = w.heap.size + 1 := ⟨_, rfl⟩
    rw [← hC] at e2 ⊢
    rw [← hB] at e3 ⊢
    have HXB := Lib.hid e3
    have HXC := Lib.hid e2
    clear hB hC
    have c0 : W2.cell? ⟨C, 0, none⟩ = some (.slice qm nm cm) := (cellH e2 0).trans rfl
    have d0 : W2.cell? ⟨B, 0, none⟩ = some (.slice qe nm ce) := (cellH e3 0).trans rfl
    have HRM := Lib.hid (room_any qm nm cm m W2 (HIM.out.step HB0.out) (by omega) HWM.out)
    clear e2 e3
    go_wp2_with fail
    refine HRM.out.mono ?_
    rintro x w3 ⟨⟨S, rfl, hr⟩ | ⟨rfl, hr⟩, hb3⟩
    · have HR := Lib.hid hr
      have HB3 := Lib.hid hb3
      obtain ⟨N, hN⟩ : ∃ N : Nat, S = (N : Int) := ⟨S.toNat, by have := hr.le; omega⟩
      have hN2 : N ≤ 16777216 := by have := hr.le; omega
      subst hN
      have HN := Lib.hid hN2
      have HB03 := Lib.hid (HB0.out.trans (hb3.mono HB0.out.size))
      have his : IS (w3.alloc (.cells #[.int .i64 (-1)] 3)) (some ⟨w3.heap.size, 0, none⟩) 1 1 [-1] := ⟨rfl, .inr ⟨w3.heap.size, 0, rfl, Nat.le_refl _, by simp, fun i x hi => by
        match i, hi with
        | 0, hi => cases hi; exact (cellH (heap_new w3 _) 0).trans rfl
        | j + 1, hi => simp at hi⟩⟩
      have HRP := Lib.hid (repeat_any _ N _ his hN2)
      have HBA : Hid (Below w3.heap.size w3 (w3.alloc (.cells #[.int .i64 (-1)] 3))) := Lib.hid ((Below.refl _ _).alloc (Nat.le_refl _) _)
      clear hr hb3 hN2 his c0 d0
      go_wp2_with fail
      refine HRP.out.mono ?_
      rintro x w4 ⟨g, rfl, ho4, hb4⟩
      have HB34 : Hid (Below W2.heap.size W2 w4) := Lib.hid ((HB3.out.trans (HBA.out.mono HB3.out.size)).trans (hb4.mono (Nat.le_trans HB3.out.size HBA.out.size)))
      have HO4 := Lib.hid (ho4.base (b' := W2.heap.size) (Nat.le_trans HB3.out.size HBA.out.size))
      clear ho4 hb4 HRP HBA
      have c0 : w4.cell? ⟨C, 0, none⟩ = some (.slice qm nm cm) := (cellH (heap_step HXC.out HB34.out) 0).trans rfl
      go_wp2_with fail
      clear c0
      go_loopw [35] (fun i wr => ∃ (k : Nat) (ed : List Int), k ≤ nm ∧ i = .int .i64 k ∧ Hid (EdTo m E k ed) ∧ Hid (OwnI wr W2.heap.size (.slice (some ⟨g, 0, none⟩) N N) ed) ∧ Hid (Below W2.heap.size W2 wr) ∧ Hid (∀ (i : Nat) (x e : Int), i < k → m[i]? = some x → x ≠ -1 → E[i]? = some e → mpd m e = true)) (fun i _ => nm - (intOf i).toNat)
      case atStart => exact ⟨0, _, by omega, rfl, Lib.hid (EdTo.start m E N), HO4, HB34, Lib.hid (fun i x e h => by omega)⟩
      case round =>
        obtain ⟨k, ed, hk, rfl, HE, HO, HBw, HMP⟩ := hrel
        clear HO4 HB34
        have xb := heap_step HXB.out HBw.out
        have xc := heap_step HXC.out HBw.out
        have HBW := Lib.hid (HB0.out.trans (HBw.out.mono HB0.out.size))
        by_cases hlt : k < nm
        · obtain ⟨hxx, h0 | ⟨gm, om, rfl, hcm, hgm, hatm⟩⟩ := HIM.out
          · omega
          obtain ⟨hxy, h0 | ⟨ge, oe, rfl, hce, hge, hate⟩⟩ := HIE.out
          · omega
          clear hxx hxy
          obtain ⟨x, hx⟩ : ∃ x, m[k]? = some x := ⟨_, List.getElem?_eq_getElem (by have := HLM.out; omega)⟩
          obtain ⟨e, he⟩ : ∃ e, E[k]? = some e := ⟨_, List.getElem?_eq_getElem (by have := HLE.out; omega)⟩
          have cm0 := (HBW.out.cell (p := ⟨gm, om + k, none⟩) hgm).trans (hatm k x hx)
          have ce0 := (HBW.out.cell (p := ⟨ge, oe + k, none⟩) hge).trans (hate k e he)
          have bz := HBW.out.size
          have hgm2 : gm < wr.heap.size := by omega
          have hge2 : ge < wr.heap.size := by omega
          have hB2 : B < wr.heap.size := heap_lt xb
          have hC2 : C < wr.heap.size := heap_lt xc
          have d0 : wr.cell? ⟨B, 0, none⟩ = some (.slice (some ⟨ge, oe, none⟩) nm ce) := (cellH xb 0).trans rfl
          have dc : wr.cell? ⟨C, 0, none⟩ = some (.slice (some ⟨gm, om, none⟩) nm cm) := (cellH xc 0).trans rfl
          have r1 : (0 : Int) ≤ (k : Int) := by omega
          have r2 : (k : Int) < (nm : Int) := by omega
          have HX := Lib.hid hx
          have HEk := Lib.hid he
          have HAM := Lib.hid hatm
          have HIMw := Lib.hid (HIM.out.step HBW.out)
          clear hatm hate hx he xb xc bz
          by_cases hx1 : x = -1
          · have hb : (x == -1) = true := by simp [hx1]
            have HE2 := Lib.hid (HE.out.skip (by rw [HX.out, hx1]))
            have HMP2 : Hid (∀ (i : Nat) (x e : Int), i < k + 1 → m[i]? = some x → x ≠ -1 → E[i]? = some e → mpd m e = true) := Lib.hid fun i y f hi hy hn hf => by
              by_cases hik : i = k
              · subst hik; rw [HX.out] at hy; cases hy; exact absurd hx1 hn
              · exact HMP.out i y f (by omega) hy hn hf
            clear hx1
            go_wp2_with fail
            go_roundw
            case rel => exact ⟨k + 1, ed, by omega, by go_num, HE2, HO, HBw, HMP2⟩
            case measure => simp [intOf]; omega
          · have hb : (x == -1) = false := by simpa using hx1
            have HX1 := Lib.hid hx1
            have HC1 := Lib.hid (mapped_any e C _ nm cm m wr dc HIMw.out)
            clear hx1
            cases hmp : mpd m e with
            | false =>
              have HNO : Hid (¬ CarOk E L m) := Lib.hid fun hc => by
                have := hc.edge k x e HX.out HX1.out HEk.out
                rw [hmp] at this; cases this
              rw [hmp] at HC1
              clear hmp
              go_wp2_with (go_at_call 32; refine HC1.out.mono ?_; rintro z w5 ⟨rfl, rfl⟩)
              go_returns
              exact ⟨.inr ⟨rfl, HNO.out⟩, HBW.out⟩
            | true =>
              obtain ⟨j, y, rfl, hy, hyn⟩ := mpd_in hmp
              rw [hmp] at HC1
              have hxr := HR.out.ok.1 x (List.mem_of_getElem? HX.out)
              have hxn := HR.out.lt x (List.mem_of_getElem? HX.out) HX1.out
              obtain ⟨xn, rfl⟩ : ∃ xn : Nat, x = (xn : Int) := ⟨x.toNat, by have := HX1.out; omega⟩
              have hxN : xn < N := by omega
              have hjn : j < nm := by have := (List.getElem?_eq_some_iff.1 hy).1; have := HLM.out; omega
              have cy0 := (HBW.out.cell (p := ⟨gm, om + j, none⟩) hgm).trans (HAM.out j y hy)
              have hlen : ed.length = N := HO.out.n.1.symm
              obtain ⟨z, hz⟩ : ∃ z, ed[xn]? = some z := ⟨_, List.getElem?_eq_getElem (by omega)⟩
              have cz0 := HO.out.cell xn z hz
              have fz0 := HO.out.frozen xn
              have HE2 : Hid (EdTo m E (k + 1) (ed.set xn y)) := Lib.hid (by
                have := HE.out.put HR.out.ok HX.out HX1.out HEk.out (by simp; omega)
                rwa [mAt_at hy] at this)
              have HO2 : Hid (OwnI (wr.drew.setCell ⟨g, xn, none⟩ (.int .i64 y)) W2.heap.size (.slice (some ⟨g, 0, none⟩) N N) (ed.set xn y)) := Lib.hid ((HO.out.step (Below.refl wr.heap.size wr).drew).put xn y)
              have HBw2 : Hid (Below W2.heap.size W2 (wr.drew.setCell ⟨g, xn, none⟩ (.int .i64 y))) := Lib.hid (HBw.out.drew.setCell HO.out.n.2.1 _)
              have HMP2 : Hid (∀ (i : Nat) (x e : Int), i < k + 1 → m[i]? = some x → x ≠ -1 → E[i]? = some e → mpd m e = true) := Lib.hid fun i y f hi hy hn hf => by
                by_cases hik : i = k
                · subst hik; rw [HEk.out] at hf; cases hf; exact hmp
                · exact HMP.out i y f (by omega) hy hn hf
              have q1 : (0 : Int) ≤ (j : Int) := by omega
              have q2 : (j : Int) < (nm : Int) := by omega
              have q3 : (0 : Int) ≤ (xn : Int) := by omega
              have q4 : (xn : Int) < (N : Int) := by omega
              clear hmp hxr hxn hlen hz hy hyn
              go_wp2_with (go_at_call 32; refine HC1.out.mono ?_; rintro z w5 ⟨rfl, rfl⟩)
              go_region
              all_goals
                go_wp2_with fail
                go_roundw
                case rel => exact ⟨k + 1, _, by omega, by go_num, HE2, HO2, HBw2, HMP2⟩
                case measure => simp [intOf]; omega
        · have hkn : k = nm := by omega
          have HEF : Hid (EdTo m E E.length ed) := Lib.hid (by have := HE.out; rwa [hkn, HLE.out] at this)
          have HMF : Hid (∀ (i : Nat) (x e : Int), m[i]? = some x → x ≠ -1 → E[i]? = some e → mpd m e = true) := Lib.hid fun i x e hx hn he => HMP.out i x e (by have := (List.getElem?_eq_some_iff.1 hx).1; have := HLM.out; omega) hx hn he
          have d1 : wr.cell? ⟨B, 1, none⟩ = some (.slice ql nl cl) := (cellH xb 1).trans rfl
          have HMB : Hid (w.heap.size ≤ W2.heap.size) := Lib.hid HB0.out.size
          have hsz := HBw.out.size
          obtain ⟨i40, hi40, hx0, hx1, hx2⟩ := info_parts info48
          have hgw : g < wr.heap.size := HO.out.n.2.2.1
          clear hkn HE HMP xb xc
          obtain ⟨wo, hwo⟩ : ∃ wo, wo = wr := ⟨_, rfl⟩
          subst hwo
          obtain ⟨g2, hg2⟩ : ∃ g2, g2 = wo.heap.size := ⟨_, rfl⟩
          have hgg : g ≠ g2 := by omega
          have HGG := Lib.hid hgg
          have HG2 : Hid (W2.heap.size ≤ g2) := Lib.hid (by omega)
          go_wp2_with (at_make; refine wpList_make_full _ rfl _ _ 23 rfl wo.heap.size 40 i40 (.agg #[.int .i64 0, .int .i64 0]) 2 Try.underlying23 hi40 hx0 hx1 .i64 .i64 _ _ nl rfl rfl rfl rfl (by rw [hx2]; omega) (by unfold maxLen; omega) (Nat.le_refl _) ?_; intro w5 hown hgr; have hb5 := (Below.refl wo.heap.size wo).grown hgr (Nat.le_refl _) (fun k hk => by simp at hk); have HBw5 := Lib.hid (HBw.out.trans (hb5.mono hsz)); have HO5 := Lib.hid (HO.out.step hb5); have HRW : Hid (RowP w5 wo.heap.size (List.replicate nl (0, 0))) := Lib.hid (made_row hown); have d1' : w5.cell? ⟨B, 1, none⟩ = some (.slice ql nl cl) := (cellH (heap_step HXB.out HBw5.out) 1).trans rfl; clear hown hgr hb5)
          rw [← hg2] at HRW ⊢
          clear d1 d1' hsz hgw hg2
          go_loopw [71] (fun i wr => ∃ (k : Nat) (ll : List P2), k ≤ nl ∧ i = .int .i64 k ∧ Hid (LkTo m L k ll) ∧ Hid (RowP wr g2 ll) ∧ Hid (OwnI wr W2.heap.size (.slice (some ⟨g, 0, none⟩) N N) ed) ∧ Hid (Below W2.heap.size W2 wr) ∧ Hid (∀ j p, j < k → L[j]? = some p → mpd m p.1 = true ∧ mpd m p.2 = true)) (fun i _ => nl - (intOf i).toNat)
          case atStart => exact ⟨0, _, by omega, rfl, Lib.hid ⟨by simp; exact HLL.out, fun j p h => by omega⟩, HRW, HO5, HBw5, Lib.hid (fun j p h => by omega)⟩
          case round =>
            obtain ⟨k, ll, hk, rfl, HLK, HRP, HO, HBw, HMP⟩ := hrel
            clear HRW HO5 HBw5
            have xc := heap_step HXC.out HBw.out
            have HBW := Lib.hid (HB0.out.trans (HBw.out.mono HB0.out.size))
            by_cases hlt : k < nl
            · obtain ⟨hxx, h0 | ⟨gl, ol, rfl, hcl, hgl, hatl⟩⟩ := HIL.out
              · omega
              clear hxx
              obtain ⟨p, hp⟩ : ∃ p, L[k]? = some p := ⟨_, List.getElem?_eq_getElem (by have := HLL.out; omega)⟩
              obtain ⟨l0, l1⟩ := hatl k p hp
              rw [← HBW.out.cell (p := ⟨gl, _, none⟩) hgl] at l0 l1
              have bz := HBW.out.size
              have hgl2 : gl < wr.heap.size := by omega
              have r1 : (0 : Int) ≤ (k : Int) := by omega
              have r2 : (k : Int) < (nl : Int) := by omega
              have hb1 : Below wr.heap.size wr (wr.alloc (.cells #[.int .i64 p.1, .int .i64 p.2] 40)) := (Below.refl _ _).alloc (Nat.le_refl _) _
              have hx1 := heap_new wr (.cells #[.int .i64 p.1, .int .i64 p.2] 40)
              have HBw1 := Lib.hid (HBw.out.trans (hb1.mono HBw.out.size))
              have HBW1 := Lib.hid (HBW.out.trans (hb1.mono bz))
              have HRP1 := Lib.hid (HRP.out.step hb1)
              have HO1 := Lib.hid (HO.out.step hb1)
              have HP := Lib.hid hp
              obtain ⟨T, hT⟩ : ∃ T, T = wr.heap.size := ⟨_, rfl⟩
              have hTg : g2 ≠ T := by have := HRP.out.lt; omega
              have hTg' : T ≠ g2 := fun e => hTg e.symm
              clear hatl hp xc bz
              go_upto_region 20 with fail
              rw [← hT] at hx1 ⊢
              clear l0 l1 hgl2 hT hb1
              obtain ⟨pa, pb⟩ := p
              simp only at hx1 HBw1 HBW1 HRP1 HO1 HP ⊢
              generalize wr.alloc (.cells #[.int .i64 pa, .int .i64 pb] 40) = w1 at *
              have t0 : w1.cell? ⟨T, 0, none⟩ = some (.int .i64 pa) := (cellH hx1 0).trans rfl
              have t1 : w1.cell? ⟨T, 1, none⟩ = some (.int .i64 pb) := (cellH hx1 1).trans rfl
              have dc : w1.cell? ⟨C, 0, none⟩ = some (.slice qm nm cm) := (cellH (heap_step HXC.out HBw1.out) 0).trans rfl
              have HIMw := Lib.hid (HIM.out.step HBW1.out)
              have HCA := Lib.hid (mapped_any pa C _ nm cm m w1 dc HIMw.out)
              have HCB := Lib.hid (mapped_any pb C _ nm cm m w1 dc HIMw.out)
              clear hx1
              cases hpa : mpd m pa with
              | false =>
                have HNO : Hid (¬ CarOk E L m) := Lib.hid fun hc => by
                  have := (hc.link _ (List.mem_of_getElem? HP.out)).1
                  rw [hpa] at this; cases this
                rw [hpa] at HCA
                clear hpa
                go_wp2_with (go_at_call 32; (with_reducible refine HCA.out.mono ?_); rintro z w6 ⟨rfl, rfl⟩)
                go_returns
                exact ⟨.inr ⟨rfl, HNO.out⟩, HBW1.out⟩
              | true =>
                cases hpb : mpd m pb with
                | false =>
                  have HNO : Hid (¬ CarOk E L m) := Lib.hid fun hc => by
                    have := (hc.link _ (List.mem_of_getElem? HP.out)).2
                    rw [hpb] at this; cases this
                  rw [hpa] at HCA
                  rw [hpb] at HCB
                  clear hpa hpb
                  go_wp2_with (first
                    | (go_at_call 32; have hy := HDN.out; clear hy; (with_reducible refine HCB.out.mono ?_); rintro z w6 ⟨rfl, rfl⟩)
                    | (go_at_call 32; (with_reducible refine HCA.out.mono ?_); rintro z w6 ⟨rfl, rfl⟩; have HDN : Hid True := Lib.hid trivial))
                  go_returns
                  exact ⟨.inr ⟨rfl, HNO.out⟩, HBW1.out⟩
                | true =>
                  obtain ⟨ja, ya, rfl, hya, _⟩ := mpd_in hpa
                  obtain ⟨jb, yb, rfl, hyb, _⟩ := mpd_in hpb
                  have HMP2 : Hid (∀ j p, j < k + 1 → L[j]? = some p → mpd m p.1 = true ∧ mpd m p.2 = true) := Lib.hid fun j p hj hp => by
                    by_cases hjk : j = k
                    · subst hjk; rw [HP.out] at hp; cases hp; exact ⟨hpa, hpb⟩
                    · exact HMP.out j p (by omega) hp
                  rw [hpa] at HCA
                  rw [hpb] at HCB
                  obtain ⟨hxx, h0 | ⟨gm, om, rfl, hcm, hgm, hatm⟩⟩ := HIM.out
                  · have := (List.getElem?_eq_some_iff.1 hya).1; omega
                  have hjan : ja < nm := by have := (List.getElem?_eq_some_iff.1 hya).1; omega
                  have hjbn : jb < nm := by have := (List.getElem?_eq_some_iff.1 hyb).1; omega
                  have cya := (HBW1.out.cell (p := ⟨gm, om + ja, none⟩) hgm).trans (hatm ja ya hya)
                  have cyb := (HBW1.out.cell (p := ⟨gm, om + jb, none⟩) hgm).trans (hatm jb yb hyb)
                  have hkl : k < ll.length := by have := HLK.out.1; have := HLL.out; omega
                  obtain ⟨z, hz⟩ : ∃ z, ll[k]? = some z := ⟨_, List.getElem?_eq_getElem hkl⟩
                  obtain ⟨cz0, cz1⟩ := HRP1.out.at_ k z hz
                  have fz0 := HRP1.out.fz (k * 2) (by omega)
                  have fz1 := HRP1.out.fz (k * 2 + 1) (by omega)
                  have hwr : Wr g2 w1 ((w1.drew.setCell ⟨g2, k * 2, none⟩ (.int .i64 ya)).setCell ⟨g2, k * 2 + 1, none⟩ (.int .i64 yb)) := (Wr.drew g2 w1).trans (wr_put w1.drew g2 k (ya, yb))
                  have HRP2 : Hid (RowP ((w1.drew.setCell ⟨g2, k * 2, none⟩ (.int .i64 ya)).setCell ⟨g2, k * 2 + 1, none⟩ (.int .i64 yb)) g2 (ll.set k (ya, yb))) := Lib.hid ((HRP1.out.step (Below.refl w1.heap.size w1).drew).put hkl (ya, yb))
                  have HO2 : Hid (OwnI ((w1.drew.setCell ⟨g2, k * 2, none⟩ (.int .i64 ya)).setCell ⟨g2, k * 2 + 1, none⟩ (.int .i64 yb)) W2.heap.size (.slice (some ⟨g, 0, none⟩) N N) ed) := Lib.hid (HO1.out.wr (by simp [Value.ownBlock]; exact HGG.out) hwr)
                  have HBw2 := Lib.hid (hwr.bel _ _ HG2.out HBw1.out)
                  have HLK2 : Hid (LkTo m L (k + 1) (ll.set k (ya, yb))) := Lib.hid (by
                    have := HLK.out.put HP.out
                    unfold mpP at this
                    simp only [mAt_at hya, mAt_at hyb] at this
                    exact this)
                  have q1 : (0 : Int) ≤ (ja : Int) := by omega
                  have q2 : (ja : Int) < (nm : Int) := by omega
                  have q3 : (0 : Int) ≤ (jb : Int) := by omega
                  have q4 : (jb : Int) < (nm : Int) := by omega
                  have hTl : T < w1.heap.size := World.block_lt_of_cell? w1 _ t0
                  clear hpa hpb hya hyb hatm hxx hz hkl hwr
                  go_wp2_with (first
                    | (go_at_call 32; have hy := HDN.out; clear hy; (with_reducible refine HCB.out.mono ?_); rintro z w6 ⟨rfl, rfl⟩)
                    | (go_at_call 32; (with_reducible refine HCA.out.mono ?_); rintro z w6 ⟨rfl, rfl⟩; have HDN : Hid True := Lib.hid trivial))
                  go_region
                  all_goals
                    go_wp2_with fail
                    go_roundw
                    case rel => exact ⟨k + 1, _, by omega, by go_num, HLK2, HRP2, HO2, HBw2, HMP2⟩
                    case measure => simp [intOf]; omega
            · have hkn : k = nl := by omega
              have HLL2 : Hid (ll = L.map (mpP m)) := Lib.hid (by have := HLK.out; rw [hkn, HLL.out] at this; exact this.all)
              have HOK : Hid (CarOk E L m) := Lib.hid ⟨by have := HLM.out; have := HLE.out; omega, HR.out.ok, HMF.out, fun p hp => by
                obtain ⟨j, hj⟩ := List.mem_iff_getElem?.1 hp
                exact HMP.out j p (by have := (List.getElem?_eq_some_iff.1 hj).1; have := HLL.out; omega) hj⟩
              have HLN := Lib.hid (links_any (some ⟨g2, 0, none⟩) nl nl ll wr (HRP.out.ps (by rw [HLK.out.1]; exact HLL.out)) hl)
              clear hkn xc
              go_wp2_with fail
              refine HLN.out.mono ?_
              rintro z w6 ⟨v6, rfl, ho6, hb6⟩
              obtain ⟨q6, n6, c6, rfl, hp6⟩ := ho6.ps
              rw [HLL2.out] at hp6
              have HP6 := Lib.hid hp6
              have HE6 := Lib.hid ((HO.out.step hb6).is')
              have HB6 := Lib.hid (HBW.out.trans (hb6.mono HBW.out.size))
              clear ho6 hb6 hp6
              go_wp2_with fail
              go_returns
              exact ⟨.inl ⟨(N : Int), ed, _, _, _, _, _, _, rfl, HOK.out, HR.out, rfl, HEF.out, HE6.out, HP6.out⟩, HB6.out⟩
    · have HNO : Hid (¬ CarOk E L m) := Lib.hid fun hc => hr hc.room
      have HB3 := Lib.hid (HB0.out.trans (hb3.mono HB0.out.size))
      clear hr hb3 c0 d0
      go_wp2_with fail
      go_returns
      exact ⟨.inr ⟨rfl, HNO.out⟩, HB3.out⟩
  · have HNO : Hid (¬ CarOk E L m) := Lib.hid fun hc => hlen (by rw [HLM.out, HLE.out]; exact hc.len)
    have h1 : ((nm : Int) != (ne : Int)) = true := by simp; omega
    clear e2 e3 hlen
    go_enter Try.func26, Try.ntmps26
    go_wp2_with fail
    go_returns
    exact ⟨.inr ⟨rfl, HNO.out⟩, HB0.out⟩
end Go.Proofs.Ytggoajpemffbiaa
