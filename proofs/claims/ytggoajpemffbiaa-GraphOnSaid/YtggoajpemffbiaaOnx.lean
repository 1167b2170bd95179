/-
  The law GraphOn where all is small, walked.
-/
import Derived.Test.YtggoajpemffbiaaOnw
namespace Go.Proofs.Ytggoajpemffbiaa
open Go.RowKit
set_option maxRecDepth 20000
set_option linter.unusedVariables false
set_option linter.unusedSimpArgs false

/-- What the two maps, one behind the other, do of a graph's edges and links. -/
structure OnOk (E E3 m : List Int) (L L3 : List P2) (k : List Int) : Prop where
  edge : ∀ (o : Nat) (x : Int), m[o]? = some x → 0 ≤ thAt k x → ∃ (T e : Nat) (y : Int), thAt k x = (T : Int) ∧ E[o]? = some (e : Int) ∧ e < m.length ∧ (m.map (thAt k))[e]? = some y ∧ E3[T]? = some y
  link : ∀ p ∈ L, ∃ (i j : Nat) (x y : Int), p = ((i : Int), (j : Int)) ∧ i < m.length ∧ j < m.length ∧ (m.map (thAt k))[i]? = some x ∧ (m.map (thAt k))[j]? = some y ∧ (0 ≤ x → 0 ≤ y → Cn L3 x y)
theorem on_ok {E E2 E3 m k : List Int} {L L2 L3 : List P2} (h1 : CarP E L E2 L2 m) (h2 : CarP E2 L2 E3 L3 k) : OnOk E E3 m L L3 k := ⟨fun o x ho h0 => on_edge h1 h2 ho h0, fun p hp => on_link h1 h2 hp⟩
set_option maxHeartbeats 32000000 in
theorem on_in (g h i : Gr) (E : List Int) (L : List P2) (V : List Int) (E2 : List Int) (L2 : List P2) (V2 : List Int) (E3 : List Int) (L3 : List P2) (V3 : List Int) (qm : Option Addr) (nm cm : Nat) (m : List Int) (qk : Option Addr) (nk ck : Nat) (k : List Int) (w : World)
    (hg : GrIn w g E L V) (hh : GrIn w h E2 L2 V2) (hi : GrIn w i E3 L3 V3) (hm : IS w qm nm cm m) (hwm : ∀ x ∈ m, W64 x) (hk : IS w qk nk ck k) (hwk : ∀ x ∈ k, W64 x)
    (f1 : fewB g = true) (f2 : fewB h = true) (f3 : fewB i = true) (hnm : nm ≤ 60) (hnk : nk ≤ 60) :
    Calls Try.prog 6 #[g.v, h.v, i.v, .slice qm nm cm, .slice qk nk ck] w (MapsPost w) := by
  obtain ⟨g1, g2, g3⟩ := few_yes f1
  obtain ⟨h1, h2, h3⟩ := few_yes f2
  obtain ⟨i1, i2, i3⟩ := few_yes f3
  have HFG : Hid (∀ W, Calls Try.prog 7 #[g.v] W fun e w' => e = .returned (.bool true) ∧ Below W.heap.size W w') := Lib.hid (fun W => by have := few_any g W; rwa [f1] at this)
  have HFH : Hid (∀ W, Calls Try.prog 7 #[h.v] W fun e w' => e = .returned (.bool true) ∧ Below W.heap.size W w') := Lib.hid (fun W => by have := few_any h W; rwa [f2] at this)
  have HFI : Hid (∀ W, Calls Try.prog 7 #[i.v] W fun e w' => e = .returned (.bool true) ∧ Below W.heap.size W w') := Lib.hid (fun W => by have := few_any i W; rwa [f3] at this)
  have HC1 : Hid (∀ W, Below w.heap.size w W → Calls Try.prog 17 #[g.v, h.v, .slice qm nm cm] W (CrsPost W E L E2 L2 m)) := Lib.hid fun W hW => carries_any g E L V h E2 L2 V2 qm nm cm m W (hg.step hW) (hh.step hW) (hm.step hW) hwm (by omega) (by omega)
  have HC2 : Hid (∀ W, Below w.heap.size w W → Calls Try.prog 17 #[h.v, i.v, .slice qk nk ck] W (CrsPost W E2 L2 E3 L3 k)) := Lib.hid fun W hW => carries_any h E2 L2 V2 i E3 L3 V3 qk nk ck k W (hh.step hW) (hi.step hW) (hk.step hW) hwk (by omega) (by omega)
  have HTH : Hid (∀ W, Below w.heap.size w W → Calls Try.prog 16 #[.slice qm nm cm, .slice qk nk ck] W fun e w' => ∃ v, e = .returned v ∧ OwnI w' W.heap.size v (m.map (thAt k)) ∧ Below W.heap.size W w') := Lib.hid fun W hW => then_any qm nm cm m qk nk ck k W (hm.step hW) (hk.step hW) (by omega)
  have HLM := Lib.hid hm.1
  have HIG := Lib.hid hg.e
  have HIL := Lib.hid hg.l
  have HIE3 := Lib.hid hi.e
  have HIL3 := Lib.hid hi.l
  obtain ⟨bx, bb⟩ := w3_in w g h i
  have HX := Lib.hid bx
  have HB := Lib.hid bb
  unfold w3 at *
  simp only [Gr.v] at *
  clear bx bb f1 f2 f3 hg hh hi hm hwm hk hwk g2 h2 i2 h1 h3
  go_enter Try.func6, Try.ntmps6
  go_upto_region 1 with fail
  generalize ((w.alloc (.cells #[.slice g.qe g.ne g.ce, .slice g.ql g.nl g.cl, .slice g.qv g.nv g.cv] 25)).alloc (.cells #[.slice h.qe h.ne h.ce, .slice h.ql h.nl h.cl, .slice h.qv h.nv h.cv] 25)).alloc (.cells #[.slice i.qe i.ne i.ce, .slice i.ql i.nl i.cl, .slice i.qv i.nv i.cv] 25) = W1 at *
  obtain ⟨D, hD⟩ : ∃ D, D = w.heap.size + 1 + 1 := ⟨_, rfl⟩
  rw [← hD] at HX ⊢
  obtain ⟨C, hC⟩ : ∃ C, C = w.heap.size + 1 := ⟨_, rfl⟩
  rw [← hC] at HX ⊢
  obtain ⟨B, hB⟩ : ∃ B, B = w.heap.size := ⟨_, rfl⟩
  rw [← hB] at HX ⊢
  clear hB hC hD
  obtain ⟨⟨c0, c1, c2⟩, ⟨d0, d1, d2⟩, ⟨e0, e1, e2⟩⟩ := HX.out.cells
  go_wp2_with fail
  refine (HFG.out W1).mono ?_
  rintro e w1 ⟨rfl, hb1⟩
  have HB1 := Lib.hid (HB.out.trans (hb1.mono HB.out.size))
  have HX1 := Lib.hid (HX.out.step hb1)
  clear hb1 c0 c1 c2 d0 d1 d2 e0 e1 e2 HX HB HFG
  have fin : ∀ wz, Below w.heap.size w wz → Calls Try.prog 8 #[] wz fun e w' => e = .returned (.bool true) ∧ Below w.heap.size w w' := fun wz hz => (alive_any wz).mono fun e w' q => ⟨q.1, hz.trans (q.2.mono hz.size)⟩
  have HFIN := Lib.hid fin
  clear fin
  obtain ⟨⟨c0, c1, c2⟩, ⟨d0, d1, d2⟩, ⟨e0, e1, e2⟩⟩ := HX1.out.cells
  go_wp2_with fail
  refine (HFH.out w1).mono ?_
  rintro e w2 ⟨rfl, hb2⟩
  have HB2 := Lib.hid (HB1.out.trans (hb2.mono HB1.out.size))
  have HX2 := Lib.hid (HX1.out.step hb2)
  clear hb2 c0 c1 c2 d0 d1 d2 e0 e1 e2 HX1 HB1 HFH
  obtain ⟨⟨c0, c1, c2⟩, ⟨d0, d1, d2⟩, ⟨e0, e1, e2⟩⟩ := HX2.out.cells
  go_wp2_with fail
  refine (HFI.out w2).mono ?_
  rintro e w3 ⟨rfl, hb3⟩
  have HB3 := Lib.hid (HB2.out.trans (hb3.mono HB2.out.size))
  have HX3 := Lib.hid (HX2.out.step hb3)
  clear hb3 c0 c1 c2 d0 d1 d2 e0 e1 e2 HX2 HB2 HFI
  obtain ⟨⟨c0, c1, c2⟩, ⟨d0, d1, d2⟩, ⟨e0, e1, e2⟩⟩ := HX3.out.cells
  have HCC := Lib.hid (HC1.out w3 HB3.out)
  clear HC1
  go_wp2_with fail
  refine HCC.out.mono ?_
  rintro e w4 ⟨b1, rfl, hb, hb4⟩
  have HB4 := Lib.hid (HB3.out.trans (hb4.mono HB3.out.size))
  have HX4 := Lib.hid (HX3.out.step hb4)
  have HP1 := Lib.hid hb
  clear hb hb4 c0 c1 c2 d0 d1 d2 e0 e1 e2 HX3 HB3 HCC
  cases b1 with
  | false =>
    go_wp2_with fail
    refine (HFIN.out w4 HB4.out).mono ?_
    rintro e w5 ⟨rfl, hb5⟩
    have HB5 := Lib.hid hb5
    clear hb5
    go_wp2_with fail
    go_ret
    exact ⟨rfl, HB5.out⟩
  | true =>
    obtain ⟨⟨c0, c1, c2⟩, ⟨d0, d1, d2⟩, ⟨e0, e1, e2⟩⟩ := HX4.out.cells
    have HCC := Lib.hid (HC2.out w4 HB4.out)
    clear HC2
    go_wp2_with fail
    refine HCC.out.mono ?_
    rintro e w5 ⟨b2, rfl, hb, hb5⟩
    have HB5 := Lib.hid (HB4.out.trans (hb5.mono HB4.out.size))
    have HX5 := Lib.hid (HX4.out.step hb5)
    have HP2 := Lib.hid hb
    clear hb hb5 c0 c1 c2 d0 d1 d2 e0 e1 e2 HX4 HB4 HCC
    cases b2 with
    | false =>
      go_wp2_with fail
      refine (HFIN.out w5 HB5.out).mono ?_
      rintro e w6 ⟨rfl, hb6⟩
      have HB6 := Lib.hid hb6
      clear hb6
      go_wp2_with fail
      go_ret
      exact ⟨rfl, HB6.out⟩
    | true =>
      have HOK := Lib.hid (on_ok (HP1.out.1 (by first | rfl | trivial)) (HP2.out.1 (by first | rfl | trivial)))
      clear HP1 HP2
      have HTT := Lib.hid (HTH.out w5 HB5.out)
      clear HTH
      go_wp2_with fail
      refine HTT.out.mono ?_
      rintro e wt ⟨v, rfl, ho, hb6⟩
      obtain ⟨qt, nt, ct, rfl, hist⟩ := ho.is
      have HT := Lib.hid hist
      have hnt : nt = nm := by have := hist.1; simp at this; have := HLM.out; omega
      subst hnt
      have HBt := Lib.hid (HB5.out.trans (hb6.mono HB5.out.size))
      have HXt := Lib.hid (HX5.out.step hb6)
      clear ho hb6 hist HX5 HB5 HTT
      go_wp2_with fail
      go_loopw [60] (fun c wr => ∃ o : Nat, o ≤ nt ∧ c = .int .i64 o ∧ Hid (Below wt.heap.size wt wr)) (fun c _ => nt - (intOf c).toNat)
      case atStart => exact ⟨0, by omega, rfl, Lib.hid (Below.refl _ _)⟩
      case round =>
        obtain ⟨o, ho, rfl, HBw⟩ := hrel
        have HBW := Lib.hid (HBt.out.trans (HBw.out.mono HBt.out.size))
        have HXw := Lib.hid (HXt.out.step HBw.out)
        have HTw := Lib.hid (HT.out.step HBw.out)
        obtain ⟨⟨c0, c1, c2⟩, ⟨d0, d1, d2⟩, ⟨e0, e1, e2⟩⟩ := HXw.out.cells
        by_cases hlt : o < nt
        · obtain ⟨hxx, h0 | ⟨gt, ot, rfl, hct, hgt, hatt⟩⟩ := HTw.out
          · omega
          clear hxx
          obtain ⟨x, hx⟩ : ∃ x, m[o]? = some x := ⟨_, List.getElem?_eq_getElem (by have := HLM.out; omega)⟩
          have v0 := hatt o (thAt k x) (by rw [List.getElem?_map, hx]; rfl)
          have r1 : (0 : Int) ≤ (o : Int) := by omega
          have r2 : (o : Int) < (nt : Int) := by omega
          by_cases hpos : 0 ≤ thAt k x
          · obtain ⟨T, e, y, hT, he, hel, hy, hz⟩ := HOK.out.edge o x hx hpos
            rw [hT] at v0
            have v2 := hatt e y hy
            have HIGw := HIG.out.step HBW.out
            have HIEw := HIE3.out.step HBW.out
            obtain ⟨hge1, h0 | ⟨ge, oe, hqe, hce, hge, hate⟩⟩ := HIGw
            · have := (List.getElem?_eq_some_iff.1 he).1; omega
            obtain ⟨hgi1, h0 | ⟨gi, oi, hqi, hci, hgi, hati⟩⟩ := HIEw
            · have := (List.getElem?_eq_some_iff.1 hz).1; omega
            have v1 := hate o _ he
            have v3 := hati T y hz
            rw [hqe] at c0
            rw [hqi] at e0
            have r3 : (o : Int) < (g.ne : Int) := by have := (List.getElem?_eq_some_iff.1 he).1; omega
            have r4 : (0 : Int) ≤ (e : Int) := by omega
            have r5 : (e : Int) < (nt : Int) := by have := HLM.out; omega
            have r6 : (0 : Int) ≤ (T : Int) := by omega
            have r7 : (T : Int) < (i.ne : Int) := by have := (List.getElem?_eq_some_iff.1 hz).1; omega
            have r8 : ¬ (i.ne : Int) ≤ (T : Int) := by omega
            have hd1 : decide ((0 : Int) ≤ (T : Int)) = true := by simp
            have hd2 : decide ((i.ne : Int) ≤ (T : Int)) = false := by simp; omega
            have hd3 : decide (i.ne ≤ T) = false := by simp; omega
            have hyy : (y != y) = false := by simp
            clear hatt hate hati hx he hel hy hz hT hpos hqe hqi hge1 hgi1
            go_wp2_with fail
            go_quiet (fail)
            go_wp2_with fail
            go_roundw
            case rel => exact ⟨o + 1, by omega, by go_num, Lib.hid (below_drewN HBw.out _)⟩
            case measure => simp [intOf]; omega
          · generalize thAt k x = z at *
            have hd1 : decide ((0 : Int) ≤ z) = false := by simpa using hpos
            clear hatt hx
            go_wp2_with fail
            go_quiet (fail)
            go_wp2_with fail
            go_roundw
            case rel => exact ⟨o + 1, by omega, by go_num, Lib.hid (below_drewN HBw.out _)⟩
            case measure => simp [intOf]; omega
        · clear ho
          go_wp2_with fail
          clear c0 c1 c2 d0 d1 d2 e0 e1 e2 hlt
          obtain ⟨wu, hwu⟩ : ∃ wu, wu = wr := ⟨_, rfl⟩
          subst hwu
          go_loopw [94] (fun c wr => ∃ j : Nat, j ≤ g.nl ∧ c = .int .i64 j ∧ Hid (Below wu.heap.size wu wr)) (fun c _ => g.nl - (intOf c).toNat)
          case atStart => exact ⟨0, by omega, rfl, Lib.hid (Below.refl _ _)⟩
          case round =>
            obtain ⟨j, hj, rfl, HBu⟩ := hrel
            have HBU := Lib.hid (HBW.out.trans (HBu.out.mono HBW.out.size))
            have HXu := Lib.hid (HXw.out.step HBu.out)
            have HTu := Lib.hid (HTw.out.step HBu.out)
            by_cases hlt : j < g.nl
            · obtain ⟨hll, h0 | ⟨gl, ol, hql, hcl, hgl, hatl⟩⟩ := HIL.out.step HBU.out
              · omega
              obtain ⟨p, hp⟩ : ∃ p, L[j]? = some p := ⟨_, List.getElem?_eq_getElem (by omega)⟩
              obtain ⟨l0, l1⟩ := hatl j p hp
              obtain ⟨a, b, x, y, rfl, ha, hb, hx, hy, hxy⟩ := HOK.out.link p (List.mem_of_getElem? hp)
              have HXY := Lib.hid hxy
              have hb1 : Below wr.heap.size wr (wr.alloc (.cells #[.int .i64 (a : Int), .int .i64 (b : Int)] 40)) := (Below.refl _ _).alloc (Nat.le_refl _) _
              have hx1 := heap_new wr (.cells #[.int .i64 (a : Int), .int .i64 (b : Int)] 40)
              have HBU1 := Lib.hid (HBU.out.trans (hb1.mono HBU.out.size))
              have HBu1 := Lib.hid (HBu.out.trans (hb1.mono HBu.out.size))
              have HX1 := Lib.hid (HXu.out.step hb1)
              have HT1 := Lib.hid (HTu.out.step hb1)
              have r1 : (0 : Int) ≤ (j : Int) := by omega
              have r2 : (j : Int) < (g.nl : Int) := by omega
              rw [hql]
              clear hll hatl hp hxy hlt
              go_upto_region 15 with fail
              clear l0 l1 hgl hb1 hql hcl
              obtain ⟨Q, hQ⟩ : ∃ Q, Q = wr.heap.size := ⟨_, rfl⟩
              rw [← hQ] at hx1 ⊢
              clear hQ
              generalize wr.alloc (.cells #[.int .i64 (a : Int), .int .i64 (b : Int)] 40) = w1 at *
              have t0 : w1.cell? ⟨Q, 0, none⟩ = some (.int .i64 (a : Int)) := (cellH hx1 0).trans rfl
              have t1 : w1.cell? ⟨Q, 1, none⟩ = some (.int .i64 (b : Int)) := (cellH hx1 1).trans rfl
              obtain ⟨htt, h0 | ⟨gt, ot, rfl, hct, hgt, hatt⟩⟩ := HT1.out
              · simp at htt; omega
              have v0 := hatt a x hx
              have v1 := hatt b y hy
              have r3 : (0 : Int) ≤ (a : Int) := by omega
              have r4 : (a : Int) < (nt : Int) := by have := HLM.out; omega
              have r5 : (0 : Int) ≤ (b : Int) := by omega
              have r6 : (b : Int) < (nt : Int) := by have := HLM.out; omega
              clear htt hatt hx hy hx1
              go_quiet (fail)
              have HXq := Lib.hid (HX1.out.step (below_drewN (Below.refl _ _) nq))
              have HBq := Lib.hid (below_drewN HBU1.out nq)
              have HBuq := Lib.hid (below_drewN HBu1.out nq)
              clear t0 t1 v0 v1 hgt HT1 HX1 HBU1 HBu1 HTw HTu HT
              generalize w1.drewN nq = wq at *
              obtain ⟨⟨c0, c1, c2⟩, ⟨d0, d1, d2⟩, ⟨e0, e1, e2⟩⟩ := HXq.out.cells
              by_cases hx0 : 0 ≤ x
              · by_cases hy0 : 0 ≤ y
                · by_cases hne : x = y
                  · have hb2 : (x != y) = false := by simp [hne]
                    clear hne
                    go_wp2_with fail
                    go_roundw
                    case rel => exact ⟨j + 1, by omega, by go_num, HBuq⟩
                    case measure => simp [intOf]; omega
                  · have hb2 : (x != y) = true := by simpa using hne
                    have HLK := Lib.hid (refLinked_any i.ql i.nl i.cl L3 x y wq (HIL3.out.step HBq.out) (by omega))
                    rw [(meets_iff L3 x y).2 (HXY.out hx0 hy0)] at HLK
                    clear hne
                    go_wp2_with (go_at_call 18; refine HLK.out.mono ?_; rintro e w4 ⟨rfl, hb4⟩; have HB4 := Lib.hid (HBuq.out.trans (hb4.mono HBuq.out.size)); clear hb4)
                    go_roundw
                    case rel => exact ⟨j + 1, by omega, by go_num, HB4⟩
                    case measure => simp [intOf]; omega
                · go_wp2_with fail
                  go_roundw
                  case rel => exact ⟨j + 1, by omega, by go_num, HBuq⟩
                  case measure => simp [intOf]; omega
              · go_wp2_with fail
                go_roundw
                case rel => exact ⟨j + 1, by omega, by go_num, HBuq⟩
                case measure => simp [intOf]; omega
            · have hjn : j = g.nl := by omega
              clear hj hlt
              go_wp2_with fail
              refine (HFIN.out wr HBU.out).mono ?_
              rintro e w6 ⟨rfl, hb6⟩
              have HB6 := Lib.hid hb6
              clear hb6
              go_wp2_with fail
              go_ret
              exact ⟨rfl, HB6.out⟩
theorem on_walk (g : Gr) (E : List Int) (L : List P2) (V : List Int) (h : Gr) (E2 : List Int) (L2 : List P2) (V2 : List Int) (i : Gr) (E3 : List Int) (L3 : List P2) (V3 : List Int) (qm : Option Addr) (nm cm : Nat) (m : List Int) (qk : Option Addr) (nk ck : Nat) (k : List Int) (w : World)
    (hg : GrIn w g E L V) (hh : GrIn w h E2 L2 V2) (hi : GrIn w i E3 L3 V3) (hm : IS w qm nm cm m ∧ ∀ x ∈ m, W64 x) (_hnm : nm ≤ maxLen) (hk : IS w qk nk ck k ∧ ∀ x ∈ k, W64 x) (_hnk : nk ≤ maxLen) :
    Calls Try.prog 6 #[g.v, h.v, i.v, .slice qm nm cm, .slice qk nk ck] w fun e w' => e = .returned (.bool true) ∧ Below w.heap.size w w' := by
  by_cases hc : fewB g = true ∧ fewB h = true ∧ fewB i = true ∧ nm ≤ 60 ∧ nk ≤ 60
  · exact on_in g h i E L V E2 L2 V2 E3 L3 V3 qm nm cm m qk nk ck k w hg hh hi hm.1 hm.2 hk.1 hk.2 hc.1 hc.2.1 hc.2.2.1 hc.2.2.2.1 hc.2.2.2.2
  · exact on_out g h i qm nm cm qk nk ck w hc
end Go.Proofs.Ytggoajpemffbiaa
