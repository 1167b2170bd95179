/-
  Links, walked.
-/
import Derived.Test.YtggoajpemffbiaaSrl
import Derived.Test.YtggoajpemffbiaaCls
namespace Go.Proofs.Ytggoajpemffbiaa
open Go.RowKit Go.Sort
set_option maxRecDepth 20000
set_option linter.unusedVariables false
set_option linter.unusedSimpArgs false

/-- What the sort leaves, of a row that is none or lies in a block. -/
def SrtPost (w : World) (base : Nat) (q : Option Addr) (n c : Nat) (L : List P2) (e : Ending) (w' : World) : Prop :=
  e = .returned (.tuple #[]) ∧ ((n = 0 ∧ L = []) ∨ ∃ g, q = some ⟨g, 0, none⟩ ∧ base ≤ g ∧ n ≤ c ∧ L.length = n ∧ RowP w' g (srt L)) ∧ ∀ N W, N ≤ base → Below N W w → Below N W w'
theorem sort_own (w : World) (base : Nat) (q : Option Addr) (n c : Nat) (L : List P2) (h : OwnP 57 w base (.slice q n c) L) (hn : L.length ≤ 100) :
    Calls Try.prog 34 #[.slice q n c, .func (.func 30) #[] #[]] w (SrtPost w base q n c L) := by
  rcases h.slice with ⟨hv, hL⟩ | ⟨g, c', hv, hb, hg, hc⟩
  · simp only [Value.slice.injEq] at hv
    obtain ⟨rfl, rfl, rfl⟩ := hv
    refine (sort_none none 0 _ w).mono ?_
    rintro e w' ⟨rfl, rfl⟩
    exact ⟨rfl, .inl ⟨rfl, hL⟩, fun _ _ _ hB => hB⟩
  · simp only [Value.slice.injEq] at hv
    obtain ⟨rfl, rfl, rfl⟩ := hv
    refine (sort_some g c L w h.row hn).mono ?_
    rintro e w' ⟨rfl, hr, hB⟩
    exact ⟨rfl, .inr ⟨g, rfl, hb, hc, rfl, hr⟩, fun N W hN hW => hB N W (by omega) hW⟩
/-- What Compact leaves. -/
def CptPost (w : World) (base : Nat) (L : List P2) (e : Ending) (w' : World) : Prop :=
  ∃ q n c, e = .returned (.slice q n c) ∧ PS w' q n c (ddTo (srt L) (srt L).length) ∧ ∀ N W, N ≤ base → Below N W w → Below N W w'
theorem compact_own (w : World) (base : Nat) (q : Option Addr) (n c : Nat) (L : List P2) (hn : L.length ≤ 100) (h : (n = 0 ∧ L = []) ∨ ∃ g, q = some ⟨g, 0, none⟩ ∧ base ≤ g ∧ n ≤ c ∧ L.length = n ∧ RowP w g (srt L)) :
    Calls Try.prog 35 #[.slice q n c] w (CptPost w base L) := by
  rcases h with ⟨rfl, rfl⟩ | ⟨g, rfl, hb, hc, hl, hr⟩
  · refine (compact_none q c w).mono ?_
    rintro e w' ⟨rfl, rfl⟩
    exact ⟨q, 0, c, rfl, ⟨by simp [srt, ddTo], .inl rfl⟩, fun _ _ _ hB => hB⟩
  · refine (compact_any g n c (srt L) w hr (by rw [srt_len]; exact hl) (by omega) hc).mono ?_
    rintro e w' ⟨rfl, hat, hw⟩
    have hle := ddTo_len (srt L) (srt L).length
    rw [srt_len] at hle
    refine ⟨_, _, c, rfl, ⟨rfl, .inr ⟨g, 0, rfl, by rw [srt_len]; omega, by rw [hw.size]; exact hr.lt, fun i p hi => ?_⟩⟩, fun N W hN hB => hw.bel N W (by omega) hB⟩
    simpa using hat i p hi
theorem infop (T : TypeId) (h : (Try.prog.info? T).map (fun i => (i.zero, i.size, i.bytes)) = some (some (.agg #[.int .i64 0, .int .i64 0]), 2, 16)) : ∃ i, Try.prog.info? T = some i ∧ i.zero = some (.agg #[.int .i64 0, .int .i64 0]) ∧ i.size = 2 ∧ i.bytes = 16 := info_parts h
theorem info65 : (Try.prog.info? 57).map (fun i => (i.zero, i.size, i.bytes)) = some (some (.agg #[.int .i64 0, .int .i64 0]), 2, 16) := by kernel_rfl
theorem info48 : (Try.prog.info? 40).map (fun i => (i.zero, i.size, i.bytes)) = some (some (.agg #[.int .i64 0, .int .i64 0]), 2, 16) := by kernel_rfl
theorem lnk_len (l : List P2) : (lnk l).length ≤ l.length := by
  unfold lnk; rw [List.length_map]; exact List.length_filter_le _ _
set_option maxHeartbeats 8000000 in
theorem links_any (q : Option Addr) (m c : Nat) (l : List P2) (w : World) (h : PS w q m c l) (hm : m ≤ 60) :
    Calls Try.prog 28 #[.slice q m c] w fun e w' => ∃ v, e = .returned v ∧ OwnP 40 w' w.heap.size v (puts l) ∧ Below w.heap.size w w' := by
  obtain ⟨i65, hi65, hy0, hy1, hy2⟩ := info_parts info65
  obtain ⟨i48, hi48, hx0, hx1, hx2⟩ := info_parts info48
  have HP := Lib.hid h
  obtain ⟨hml, _⟩ := h
  have HML := Lib.hid hml
  clear hml
  go_enter Try.func28, Try.ntmps28
  go_wp2_with fail
  go_loopw [3, 11] (fun v i wr => ∃ (k : Nat), k ≤ m ∧ i = .int .i64 k ∧ Hid (OwnP 57 wr w.heap.size v (lnk (l.take k))) ∧ Hid (Below w.heap.size w wr)) (fun _ i _ => m - (intOf i).toNat)
  case atStart => exact ⟨0, by omega, rfl, Lib.hid (OwnP.nil _ _ _), Lib.hid (Below.refl _ _)⟩
  case round =>
    obtain ⟨k, hk, rfl, HO, HB⟩ := hrel
    by_cases hlt : k < m
    · obtain ⟨hmm, h0 | ⟨gb, o, rfl, hcb, hgb, hat⟩⟩ := HP.out
      · omega
      clear hmm
      obtain ⟨p, hp⟩ : ∃ p, l[k]? = some p := ⟨_, List.getElem?_eq_getElem (by have := HML.out; omega)⟩
      obtain ⟨v0, v1⟩ := hat k p hp
      rw [← HB.out.cell (p := ⟨gb, _, none⟩) hgb] at v0 v1
      have hbz := HB.out.size
      have hgb2 : gb < wr.heap.size := by omega
      have s1 : (0 : Int) ≤ (k : Int) := by omega
      have s2 : (k : Int) < (m : Int) := by omega
      have HTK : Hid (lnk (l.take (k + 1)) = lnk (l.take k) ++ (bif odd p then [nrm p] else [])) := Lib.hid (by rw [take_snoc hp, lnk_snoc])
      have HLN : Hid ((lnk (l.take k)).length ≤ 60) := Lib.hid (by have := lnk_len (l.take k); simp only [List.length_take] at this; omega)
      clear hp hat
      obtain ⟨pa, pb⟩ := p
      simp only at v0 v1
      have HB1 := Lib.hid (HB.out.alloc hbz (.cells #[.int .i64 pa, .int .i64 pb] 40))
      have HO1 := Lib.hid (HO.out.step ((Below.refl wr.heap.size wr).alloc (Nat.le_refl _) (.cells #[.int .i64 pa, .int .i64 pb] 40)))
      by_cases hpp : pa = pb
      · have HT2 : Hid (lnk (l.take (k + 1)) = lnk (l.take k)) := Lib.hid (by rw [HTK.out]; simp [odd, hpp])
        have hq : (pa != pb) = false := by simp [hpp]
        clear hpp
        go_wp2_with fail
        go_roundw
        case rel => exact ⟨k + 1, by omega, by go_num, Lib.hid (by rw [HT2.out]; exact HO1.out), HB1⟩
        case measure => simp [intOf]; omega
      · have hq : (pa != pb) = true := by simpa using hpp
        have hq2 : (pa == pb) = false := by simpa using hpp
        have HZ : Hid (w.heap.size ≤ (wr.alloc (.cells #[.int .i64 pa, .int .i64 pb] 40)).heap.size) := Lib.hid (by simp; omega)
        have HOD : Hid (lnk (l.take (k + 1)) = lnk (l.take k) ++ [nrm (pa, pb)]) := Lib.hid (by rw [HTK.out]; simp [odd, hpp])
        have ebx := heap_new wr (.cells #[.int .i64 pa, .int .i64 pb] 40)
        have HROW : Hid ((wr.alloc (.cells #[.int .i64 pa, .int .i64 pb] 40)).ownsRow w.heap.size 57 2 u3 (lnk (l.take k)).length (pcells (lnk (l.take k)))) := Lib.hid HO1.out
        have hpl : (pcells (lnk (l.take k))).length = (lnk (l.take k)).length * 2 := pcells_length _
        have HNW : Hid (∀ j u, (pc (nrm (pa, pb)))[j]? = some u → ((wr.alloc (.cells #[.int .i64 pa, .int .i64 pb] 40)).alloc (.cells #[.int .i64 (min pa pb), .int .i64 (max pa pb)] 57)).cell? ((⟨wr.heap.size + 1, 0, none⟩ : Addr).add j) = some u) := Lib.hid (by
          have := newp 57 (wr.alloc (.cells #[.int .i64 pa, .int .i64 pb] 40)) (nrm (pa, pb))
          rwa [show (wr.alloc (.cells #[.int .i64 pa, .int .i64 pb] 40)).heap.size = wr.heap.size + 1 by simp] at this)
        have HLE : Hid ((lnk (l.take k)).length ≤ 60) := HLN
        clear ebx hpp
        go_wp2_with (first
          | (at_builtin; refine wpList_append_own _ rfl _ _ 63 rfl w.heap.size 57 i65 _ 2 16 Try.underlying63 hi65 hy0 hy1 hy2 rfl (by decide) _ _ _ rfl (World.ownsRow.alloc HROW.out _) ⟨_, 0, none⟩ 1 1 (pc (nrm (pa, pb))) rfl rfl HNW.out (onep _) (by have := HLE.out; unfold maxLen; omega) (by have := HLE.out; omega) (by simp; omega) ?_; intro v' w3 hown' hg3 hnil3; have HO' := Lib.hid (OwnP.snoc hown'); have HG3 := Lib.hid ((HB1.out.alloc HZ.out _).grown hg3 (by simp; omega) (fun j hj => (World.ownsRow.lt HROW.out j hj).1)); clear hown' hg3 hnil3)
          | go_in)
        go_roundw
        case rel => exact ⟨k + 1, by omega, by go_num, Lib.hid (by rw [HOD.out]; exact HO'.out), HG3⟩
        case measure => simp [intOf]; omega
    · have hkm : k = m := by omega
      have HO2 : Hid (OwnP 57 wr w.heap.size u3 (lnk l)) := Lib.hid (by have := HO.out; rwa [hkm, HML.out, List.take_length] at this)
      have HLE : Hid ((lnk l).length ≤ 60) := Lib.hid (by have := lnk_len l; have := HML.out; omega)
      obtain ⟨q3, n3, c3, hv, _⟩ := HO2.out.ps
      subst hv
      have HPU : Hid (ddTo (srt (lnk l)) (srt (lnk l)).length = puts l) := Lib.hid (puts_srt l)
      have HSO := Lib.hid (sort_own wr w.heap.size q3 n3 c3 (lnk l) HO2.out (by have := HLE.out; omega))
      clear hkm
      go_wp2_with (first
        | (go_at_call 34; refine HSO.out.mono ?_; rintro e w2 ⟨rfl, hs2, hb2⟩; have HC2 := Lib.hid (compact_own w2 w.heap.size q3 n3 c3 (lnk l) (by have := HLE.out; omega) hs2); have HB2 := Lib.hid (hb2 _ _ (Nat.le_refl _) HB.out); clear hs2 hb2)
        | (go_at_call 35; refine HC2.out.mono ?_; rintro e w4 ⟨q4, n4, c4, rfl, hps, hb4⟩; rw [HPU.out] at hps; have HPS := Lib.hid hps; have HB4 := Lib.hid (hb4 _ _ (Nat.le_refl _) HB2.out); clear hps hb4))
      have HN4 : Hid (n4 = (puts l).length) := Lib.hid HPS.out.1
      have hn4 : n4 ≤ 60 := by have := HPS.out.1; have := puts_len l; have := HML.out; omega
      clear HO HB
      go_loopw [6, 40] (fun v i wi => ∃ (k : Nat), k ≤ n4 ∧ i = .int .i64 k ∧ Hid (OwnP 40 wi w4.heap.size v ((puts l).take k)) ∧ Hid (Below w4.heap.size w4 wi)) (fun _ i _ => n4 - (intOf i).toNat)
      case atStart => exact ⟨0, by omega, rfl, Lib.hid (OwnP.nil _ _ _), Lib.hid (Below.refl _ _)⟩
      case round =>
        obtain ⟨k2, hk2, rfl, HO5, HB5⟩ := hrel
        by_cases hlt5 : k2 < n4
        · obtain ⟨hmm, h0 | ⟨gb, o, rfl, hcb, hgb, hat⟩⟩ := HPS.out
          · omega
          clear hmm
          obtain ⟨p, hp⟩ : ∃ p, (puts l)[k2]? = some p := ⟨_, List.getElem?_eq_getElem (by have := HN4.out; omega)⟩
          obtain ⟨v0, v1⟩ := hat k2 p hp
          rw [← HB5.out.cell (p := ⟨gb, _, none⟩) hgb] at v0 v1
          have hbz := HB5.out.size
          have hbz4 : w.heap.size ≤ wr.heap.size := Nat.le_trans HB4.out.size hbz
          have hgb2 : gb < wr.heap.size := by omega
          have s1 : (0 : Int) ≤ (k2 : Int) := by omega
          have s2 : (k2 : Int) < (n4 : Int) := by omega
          have HTK : Hid ((puts l).take (k2 + 1) = (puts l).take k2 ++ [p]) := Lib.hid (take_snoc hp)
          have HLN : Hid (((puts l).take k2).length ≤ 60) := Lib.hid (by simp only [List.length_take]; omega)
          have HROW : Hid (wr.ownsRow w4.heap.size 40 2 u6 ((puts l).take k2).length (pcells ((puts l).take k2))) := Lib.hid HO5.out
          have hpl : (pcells ((puts l).take k2)).length = ((puts l).take k2).length * 2 := pcells_length _
          have HNW : Hid (∀ j u, (pc p)[j]? = some u → ((wr.alloc (.cells #[.int .i64 p.1, .int .i64 p.2] 57)).alloc (.cells #[.int .i64 p.1, .int .i64 p.2] 40)).cell? ((⟨wr.heap.size + 1, 0, none⟩ : Addr).add j) = some u) := Lib.hid (by
            have := newp 40 (wr.alloc (.cells #[.int .i64 p.1, .int .i64 p.2] 57)) p
            rwa [show (wr.alloc (.cells #[.int .i64 p.1, .int .i64 p.2] 57)).heap.size = wr.heap.size + 1 by simp] at this)
          have HBB := Lib.hid (HB4.out.trans (HB5.out.mono HB4.out.size))
          have HB6 := Lib.hid (HB5.out.alloc hbz (.cells #[.int .i64 p.1, .int .i64 p.2] 57))
          clear hp hat
          generalize hL : (puts l).take k2 = L at *
          clear hL
          go_wp2_with (first
            | (at_builtin; refine wpList_append_own _ rfl _ _ 23 rfl w4.heap.size 40 i48 _ 2 16 Try.underlying23 hi48 hx0 hx1 hx2 rfl (by decide) _ _ _ rfl (World.ownsRow.alloc (World.ownsRow.alloc HROW.out _) _) ⟨_, 0, none⟩ 1 1 (pc p) rfl rfl HNW.out (onep _) (by have := HLN.out; unfold maxLen; omega) (by have := HLN.out; omega) (by simp; omega) ?_; intro v' w3 hown' hg3 hnil3; have HO' := Lib.hid (OwnP.snoc hown'); have HG3 := Lib.hid ((HB6.out.alloc (by simp; omega) _).grown hg3 (by simp; omega) (fun j hj => (World.ownsRow.lt HROW.out j hj).1)); clear hown' hg3 hnil3)
            | go_in)
          go_roundw
          case rel => exact ⟨k2 + 1, by omega, by go_num, Lib.hid (by rw [HTK.out]; exact HO'.out), HG3⟩
          case measure => simp [intOf]; omega
        · have HF : Hid (OwnP 40 wr w.heap.size u6 (puts l)) := Lib.hid (by
            have := HO5.out
            rw [show k2 = n4 by omega, HN4.out, List.take_length] at this
            exact this.base HB4.out.size)
          go_wp2_with fail
          go_ret
          exact ⟨_, rfl, HF.out, HB4.out.trans (HB5.out.mono HB4.out.size)⟩
end Go.Proofs.Ytggoajpemffbiaa
