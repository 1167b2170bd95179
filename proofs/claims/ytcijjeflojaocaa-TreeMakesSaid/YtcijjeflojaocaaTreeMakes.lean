/-
  TreeMakes: the walk.
-/
import Derived.Test.YtcijjeflojaocaaRefKids
import Derived.Test.YtcijjeflojaocaaTreeNil
import Derived.Test.YtcijjeflojaocaaMade
import Derived.Test.YtcijjeflojaocaaTail
namespace Go.Proofs.Ytcijjeflojaocaa
open Go.RowKit
set_option linter.unusedVariables false
set_option linter.unusedSimpArgs false

set_option maxRecDepth 100000 in
set_option maxHeartbeats 16000000 in
theorem treeMakes_any (b : Br) (n : Int) (w : World) (hl : b.Lies w) : Calls Try.prog 3 #[b.h.val, .int .i64 n] w fun e w' => e = .returned (.bool true) ∧ Below w.heap.size w w' := by
  obtain ⟨i0, hi0, hy0, hy1, hy2⟩ := info_parts info3
  obtain ⟨w0, e0, c0, l0, b0, s0⟩ := boxed w b hl
  have HF := Lib.hid (fun W hW => few_any b W hW)
  have HQ : Hid (∀ w1 w2 : World, Below w1.heap.size w1 w2 → b.Lies w1 → b.Lies w2) := Lib.hid fun w1 w2 h h' => h'.step _ h
  have HBX : Hid (∀ w1, Below w0.heap.size w0 w1 → (w1.cell? ⟨w.heap.size, 0, none⟩ = some (.int .i64 b.h.k) ∧ w1.cell? ⟨w.heap.size, 1, none⟩ = some (.int .i64 b.h.m) ∧ w1.cell? ⟨w.heap.size, 2, none⟩ = some (.int .i64 b.h.f) ∧ w1.cell? ⟨w.heap.size, 3, none⟩ = some (.int .i64 b.h.t) ∧ w1.cell? ⟨w.heap.size, 4, none⟩ = some (.slice b.h.np b.h.nn b.h.nc) ∧ w1.cell? ⟨w.heap.size, 5, none⟩ = some (.slice b.h.kp b.h.kn b.h.kc))) := Lib.hid fun w1 hb => (c0.step (by omega) hb).box
  have L0 := Lib.hid l0
  have B0 := Lib.hid b0
  have S0 := Lib.hid s0
  clear c0 l0 b0 s0 hl
  cases hfew : few b
  · rw [hfew] at HF
    generalize b.h = h at *
    go_enter Try.func3, Try.ntmps3
    go_wp2_with fail
    rw [← e0]
    refine (HF.out w0 L0.out).mono ?_
    rintro e w1 ⟨rfl, hb1⟩
    have HB1 := Lib.hid (B0.out.trans (hb1.mono B0.out.size))
    clear hb1 e0
    have HX := Lib.hid (alive_any w1)
    go_wp2_with fail
    refine HX.out.mono ?_
    rintro e w2 ⟨rfl, hb2⟩
    have HB2 := Lib.hid (HB1.out.trans (hb2.mono HB1.out.size))
    clear hb2
    go_wp2_with fail
    go_ret
    exact ⟨by first | trivial | rfl, HB2.out⟩
  · rw [hfew] at HF
    obtain ⟨hs1, hn1⟩ := fewB hfew
    have hfit := fits_of b hn1
    have HM := Lib.hid (fun W hW => make_any b W hW hfit (by omega))
    have HRO := Lib.hid (fun W hW => refRows_any b W hW (by omega))
    have hlen : b.knots.length = b.size := knots_length b
    have hal : b.all.length = b.size := all_length b
    have HFIT := Lib.hid hfit
    clear hfew hfit
    generalize hh : b.h = h at *
    go_enter Try.func3, Try.ntmps3
    go_wp2_with fail
    rw [← e0]
    refine (HF.out w0 L0.out).mono ?_
    rintro e w1 ⟨rfl, hb1⟩
    have HB1 := Lib.hid hb1
    obtain ⟨q0, q1, q2, q3, q4, q5⟩ := HBX.out w1 hb1
    have HX := Lib.hid (HM.out w1 (HQ.out _ _ hb1 L0.out))
    clear hb1 e0
    go_wp2_with fail
    refine HX.out.mono ?_
    rintro e w2 ⟨T, g, c, rfl, ha2, hb2⟩
    have hb2' := HB1.out.trans (hb2.mono HB1.out.size)
    clear q0 q1 q2 q3 q4 q5
    obtain ⟨q0, q1, q2, q3, q4, q5⟩ := HBX.out w2 hb2'
    have HB2 := Lib.hid hb2'
    have HA2 := Lib.hid ha2
    have HX := Lib.hid (HRO.out w2 (HQ.out _ _ hb2' L0.out))
    clear hb2 hb2' ha2
    go_wp2_with fail
    refine HX.out.mono ?_
    rintro e w3 ⟨v3, rfl, hown3, hb3⟩
    obtain ⟨gr, cr, rfl, hcr, hgr, hrows⟩ := rowsAt_of (l := b.all) (by rw [hal]; exact hown3) (by rw [hal]; exact b.size_pos)
    have HROWS := Lib.hid hrows
    have HB3 := Lib.hid (HB2.out.trans (hb3.mono HB2.out.size))
    have HA3 := Lib.hid (HA2.out.step hb3)
    have HL3 := Lib.hid (HQ.out _ _ HB3.out L0.out)
    have HX := Lib.hid (len_any w3 HA3.out)
    rw [hlen, ← hal] at HX
    have HAL := Lib.hid hal
    have HLEN := Lib.hid hlen
    clear q0 q1 q2 q3 q4 q5 hrows hown3 hb3 HM HRO hal hlen
    go_wp2_with fail
    refine HX.out.mono ?_
    rintro e u ⟨rfl, rfl⟩
    by_cases hneg : n < 0
    · have hno := noNum_of (n := n) HA3.out (.inl hneg)
      have HNO := Lib.hid hno
      have HX := Lib.hid (knot_no w3 hno)
      clear hno
      go_wp2_with fail
      refine HX.out.mono ?_
      rintro e w4 ⟨rfl, hb4⟩
      have hb4' : Below w3.heap.size w3 (w4.alloc (.cells #[.int .i64 0, .int .i64 0, .int .i64 0, .int .i64 0, .int .i64 0, .int .i64 0, .int .i64 0] 34)) := hb4.alloc hb4.size _
      have HB4 := Lib.hid hb4'
      clear hb4 hb4'
      have HX := Lib.hid (names_no _ (HNO.out.step HB4.out))
      go_wp2_with fail
      generalize hW : w4.alloc (.cells #[.int .i64 0, .int .i64 0, .int .i64 0, .int .i64 0, .int .i64 0, .int .i64 0, .int .i64 0] 34) = w5 at *
      clear hW
      refine HX.out.mono ?_
      rintro e u ⟨rfl, rfl⟩
      have HX := Lib.hid (kids_no w5 (HNO.out.step HB4.out))
      go_wp2_with fail
      refine HX.out.mono ?_
      rintro e u ⟨rfl, rfl⟩
      have HX := Lib.hid (deep_no w5 (HNO.out.step HB4.out))
      go_wp2_with fail
      refine HX.out.mono ?_
      rintro e u ⟨rfl, rfl⟩
      have HX := Lib.hid (walk_no w5 (HNO.out.step HB4.out))
      go_wp2_with fail
      refine HX.out.mono ?_
      rintro e u ⟨rfl, rfl⟩
      have HX := Lib.hid (path_no w5 (HNO.out.step HB4.out))
      go_wp2_with fail
      refine HX.out.mono ?_
      rintro e u ⟨rfl, rfl⟩
      have HX := Lib.hid (branch_no w5 (HNO.out.step HB4.out))
      go_wp2_with fail
      refine HX.out.mono ?_
      rintro e w6 ⟨rfl, hb6⟩
      have HB6 := Lib.hid (HB4.out.trans (hb6.mono HB4.out.size))
      clear hb6
      have HX := Lib.hid (zB_same w6)
      go_wp2_with fail
      refine HX.out.mono ?_
      rintro e w7 ⟨rfl, hb7⟩
      have HB7 := Lib.hid (HB6.out.trans (hb7.mono HB6.out.size))
      clear hb7
      have HX := Lib.hid (alive_any w7)
      go_wp2_with fail
      refine HX.out.mono ?_
      rintro e w8 ⟨rfl, hb8⟩
      have HE := Lib.hid (B0.out.trans (HB3.out.trans ((HB7.out.trans (hb8.mono HB7.out.size)).mono HB3.out.size) |>.mono B0.out.size))
      clear hb8
      go_wp2_with fail
      go_ret
      exact ⟨by first | trivial | rfl, HE.out⟩

    · by_cases hbig : (b.all.length : Int) ≤ n
      · have hno := noNum_of (n := n) HA3.out (.inr (by rw [HLEN.out, ← HAL.out]; exact hbig))
        have HNO := Lib.hid hno
        have HX := Lib.hid (knot_no w3 hno)
        clear hno
        go_wp2_with fail
        refine HX.out.mono ?_
        rintro e w4 ⟨rfl, hb4⟩
        have hb4' : Below w3.heap.size w3 (w4.alloc (.cells #[.int .i64 0, .int .i64 0, .int .i64 0, .int .i64 0, .int .i64 0, .int .i64 0, .int .i64 0] 34)) := hb4.alloc hb4.size _
        have HB4 := Lib.hid hb4'
        clear hb4 hb4'
        have HX := Lib.hid (names_no _ (HNO.out.step HB4.out))
        go_wp2_with fail
        generalize hW : w4.alloc (.cells #[.int .i64 0, .int .i64 0, .int .i64 0, .int .i64 0, .int .i64 0, .int .i64 0, .int .i64 0] 34) = w5 at *
        clear hW
        refine HX.out.mono ?_
        rintro e u ⟨rfl, rfl⟩
        have HX := Lib.hid (kids_no w5 (HNO.out.step HB4.out))
        go_wp2_with fail
        refine HX.out.mono ?_
        rintro e u ⟨rfl, rfl⟩
        have HX := Lib.hid (deep_no w5 (HNO.out.step HB4.out))
        go_wp2_with fail
        refine HX.out.mono ?_
        rintro e u ⟨rfl, rfl⟩
        have HX := Lib.hid (walk_no w5 (HNO.out.step HB4.out))
        go_wp2_with fail
        refine HX.out.mono ?_
        rintro e u ⟨rfl, rfl⟩
        have HX := Lib.hid (path_no w5 (HNO.out.step HB4.out))
        go_wp2_with fail
        refine HX.out.mono ?_
        rintro e u ⟨rfl, rfl⟩
        have HX := Lib.hid (branch_no w5 (HNO.out.step HB4.out))
        go_wp2_with fail
        refine HX.out.mono ?_
        rintro e w6 ⟨rfl, hb6⟩
        have HB6 := Lib.hid (HB4.out.trans (hb6.mono HB4.out.size))
        clear hb6
        have HX := Lib.hid (zB_same w6)
        go_wp2_with fail
        refine HX.out.mono ?_
        rintro e w7 ⟨rfl, hb7⟩
        have HB7 := Lib.hid (HB6.out.trans (hb7.mono HB6.out.size))
        clear hb7
        have HX := Lib.hid (alive_any w7)
        go_wp2_with fail
        refine HX.out.mono ?_
        rintro e w8 ⟨rfl, hb8⟩
        have HE := Lib.hid (B0.out.trans (HB3.out.trans ((HB7.out.trans (hb8.mono HB7.out.size)).mono HB3.out.size) |>.mono B0.out.size))
        clear hb8
        go_wp2_with fail
        go_ret
        exact ⟨by first | trivial | rfl, HE.out⟩

      · obtain ⟨m, rfl⟩ : ∃ m : Nat, n = (m : Int) := ⟨n.toNat, by omega⟩
        have hm : m < b.all.length := by omega
        obtain ⟨e, he⟩ : ∃ e, b.all[m]? = some e := ⟨_, List.getElem?_eq_getElem hm⟩
        have hmk : m < b.knots.length := by rw [HLEN.out, ← HAL.out]; exact hm
        have hget := knots_get he hmk
        have hkn := knot_yes m w3 HA3.out hmk
        rw [hget] at hkn
        simp only [Ent.kn, pos_of_all he] at hkn
        obtain ⟨FV, hFV⟩ : ∃ FV, FV = firstOf e.b m := ⟨_, rfl⟩
        rw [← hFV] at hkn
        have HX := Lib.hid hkn
        have hr1 : (0 : Int) ≤ (m : Int) := by omega
        have hr2 : (m : Int) < (b.all.length : Int) := by omega
        have hend := end_le he
        rw [← HAL.out] at hend
        have hsp := e.b.size_pos
        have hge : b.all[m] = e := by
          have := List.getElem?_eq_getElem hm
          rw [he] at this
          exact (Option.some.inj this).symm
        have HRM : Hid (∀ W, Below w3.heap.size w3 W → W.cell? ⟨gr, m * 8, none⟩ = some (.int .i64 e.b.h.k) ∧ W.cell? ⟨gr, m * 8 + 1, none⟩ = some (.int .i64 e.b.h.m) ∧ W.cell? ⟨gr, m * 8 + 2, none⟩ = some (.int .i64 e.b.h.f) ∧ W.cell? ⟨gr, m * 8 + 3, none⟩ = some (.int .i64 e.b.h.t) ∧ W.cell? ⟨gr, m * 8 + 4, none⟩ = some (.slice e.b.h.np e.b.h.nn e.b.h.nc) ∧ W.cell? ⟨gr, m * 8 + 5, none⟩ = some (.slice e.b.h.kp e.b.h.kn e.b.h.kc) ∧ W.cell? ⟨gr, m * 8 + 6, none⟩ = some (.int .i64 e.up) ∧ W.cell? ⟨gr, m * 8 + 7, none⟩ = some (.int .i64 e.deep)) := Lib.hid fun W hW => by
          have := HROWS.out.step hgr hW m hm
          rw [hge] at this
          exact this
        have hinh : Inhabited (List Nat) := ⟨[]⟩
        obtain ⟨paths, hp0⟩ := choose_le (n := b.size) (fun i hi => climb_of b i hi)
        have HPATH : Hid (∀ i, i < b.all.length → Climb (fun i => b.all[i]?.map Ent.up) (i : Int) (paths i)) := Lib.hid fun i hi => (hp0 i (by rw [← HAL.out]; exact hi)).1
        have HPLEN : Hid (∀ i, i < b.all.length → (paths i).length ≤ b.all.length) := Lib.hid fun i hi => by have := (hp0 i (by rw [← HAL.out]; exact hi)).2; omega
        have HBEL : Hid (∀ k, k < b.all.length → (paths k).contains m = (decide (m ≤ k) && decide (k < m + e.b.size))) := Lib.hid (below_iff HPATH.out he)
        have hup := up_of he
        have hnx := next_of he
        have hfo := firstOf_eq e.b m
        have HUPS := Lib.hid (upsAt_all he)
        have hallen : b.all.length ≤ 150 := by rw [HAL.out]; exact hs1
        have hnl := (lies_iff _ _).1 (lies_flat b HL3.out _ _ _ _ _ e (List.mem_of_getElem? he))
        have hnf : e.b.h.nn * 8 ≤ 140737488355328 := by
          have hff := fits_flat b HFIT.out _ _ _ _ _ e (List.mem_of_getElem? he)
          have heta := e.b.eta
          rw [← heta] at hff
          simp only [Br.Fits] at hff
          exact hff.1
        have HINN := Lib.hid hnl.1
        have hnn6 : e.b.h.nn ≤ 1000000 := by
          have h1 := names_le_all b _ _ _ _ _ e (List.mem_of_getElem? he)
          omega
        have hnn := hnl.1.1
        have HE := Lib.hid he
        have HUP := Lib.hid hup
        have HNX0 := Lib.hid hnx
        have HFO := Lib.hid hfo
        have HNN := Lib.hid hnn
        have HFV0 := Lib.hid hFV
        have hsz2 : b.size ≤ 150 := hs1
        clear hkn hget hp0 hnl hinh hge hup hnx hfo hnn hFV hs1
        have hb4a := hr1
        go_wp2_with fail
        refine HX.out.mono ?_
        rintro e' w4 ⟨rfl, hb4⟩
        have hz4 := hb4.size
        have hKB : ∀ W, Below (w4.alloc (.cells #[.int .i64 e.b.h.k, .int .i64 e.b.h.m, .int .i64 e.b.h.f, .int .i64 e.b.h.t, .int .i64 e.up, .int .i64 FV, .int .i64 e.next] 34)).heap.size (w4.alloc (.cells #[.int .i64 e.b.h.k, .int .i64 e.b.h.m, .int .i64 e.b.h.f, .int .i64 e.b.h.t, .int .i64 e.up, .int .i64 FV, .int .i64 e.next] 34)) W → W.cell? ⟨w4.heap.size, 0, none⟩ = some (.int .i64 e.b.h.k) ∧ W.cell? ⟨w4.heap.size, 1, none⟩ = some (.int .i64 e.b.h.m) ∧ W.cell? ⟨w4.heap.size, 2, none⟩ = some (.int .i64 e.b.h.f) ∧ W.cell? ⟨w4.heap.size, 3, none⟩ = some (.int .i64 e.b.h.t) ∧ W.cell? ⟨w4.heap.size, 4, none⟩ = some (.int .i64 e.up) ∧ W.cell? ⟨w4.heap.size, 5, none⟩ = some (.int .i64 FV) ∧ W.cell? ⟨w4.heap.size, 6, none⟩ = some (.int .i64 e.next) := fun W hW => by
          have hlt : w4.heap.size < (w4.alloc (.cells #[.int .i64 e.b.h.k, .int .i64 e.b.h.m, .int .i64 e.b.h.f, .int .i64 e.b.h.t, .int .i64 e.up, .int .i64 FV, .int .i64 e.next] 34)).heap.size := by simp
          have k := heap_alloc_new w4 (.cells #[.int .i64 e.b.h.k, .int .i64 e.b.h.m, .int .i64 e.b.h.f, .int .i64 e.b.h.t, .int .i64 e.up, .int .i64 FV, .int .i64 e.next] 34)
          refine ⟨?_, ?_, ?_, ?_, ?_, ?_, ?_⟩ <;> (rw [hW.cell (by exact hlt), Lib.cell_of_heap k]; rfl)
        have hb4' : Below w3.heap.size w3 (w4.alloc (.cells #[.int .i64 e.b.h.k, .int .i64 e.b.h.m, .int .i64 e.b.h.f, .int .i64 e.b.h.t, .int .i64 e.up, .int .i64 FV, .int .i64 e.next] 34)) := hb4.alloc hz4 _
        clear hb4 HX
        go_wp2_with fail
        generalize w4.alloc (.cells #[.int .i64 e.b.h.k, .int .i64 e.b.h.m, .int .i64 e.b.h.f, .int .i64 e.b.h.t, .int .i64 e.up, .int .i64 FV, .int .i64 e.next] 34) = W4 at *
        have HKB := Lib.hid hKB
        have HB4 := Lib.hid hb4'
        have hkids := refKids_any b.all m gr cr W4 (HROWS.out.step hgr hb4') (Nat.lt_of_lt_of_le hgr hb4'.size) hcr (by omega)
        rw [HUPS.out] at hkids
        have HX := Lib.hid hkids
        clear hKB hb4' hkids
        refine HX.out.mono ?_
        rintro e' w5 ⟨v5, rfl, hown5, hb5⟩
        have hz5 := hb5.size
        obtain ⟨p5, c5, hv5, hin5⟩ := own_in hown5
        have HINK := Lib.hid hin5
        have HB5 := Lib.hid (HB4.out.trans (hb5.mono HB4.out.size))
        have HB45 := Lib.hid hb5
        obtain ⟨a0, a1, a2, a3, a4, a5, a6, a7⟩ := HRM.out w5 HB5.out
        have HOW5 := Lib.hid hown5
        have HKLC : Hid (offs (m + 1) e.b.ks = kidsOf b m) := Lib.hid (kidsOf_at HE.out).symm
        subst hv5
        have hkl5 : (offs (m + 1) e.b.ks).length ≤ 150 := by rw [offs_length]; have := kids_le HE.out; omega
        clear hb5 hin5 HX hown5
        rcases HFO.out with ⟨hks, hfv⟩ | ⟨hks, hfv⟩
        · have hkl : (offs (m + 1) e.b.ks).length = 0 := by rw [hks]; rfl
          have HFV : FV = -1 := by rw [HFV0.out, hfv]
          subst HFV
          clear hks hfv
          generalize hKL : offs (m + 1) e.b.ks = KL at *
          have HKLE := Lib.hid hKL
          clear hKL
          rcases HUP.out with ⟨hm0, hu1⟩ | ⟨u, hu1, hu2⟩
          · have hNX : e.next = -1 := by
              subst hm0
              have h00 : b.all[0]? = some ⟨b, -1, 1, -1, 0, b.size⟩ := by
                show (b.flat (-1) 1 (-1) b.size 0)[0]? = _
                rw [flat_eq]; rfl
              have := HE.out
              rw [h00] at this
              rw [← Option.some.inj this]
            have hu9 : ¬ (0 : Int) ≤ e.up := by omega
            have HNXE := Lib.hid hNX
            clear hm0 hu1 hNX
            go_wp2_with fail
            have HBt := Lib.hid HB5.out
            have HB5t := Lib.hid (Below.refl w5.heap.size w5)
            obtain ⟨NX, hNX2⟩ : ∃ NX, NX = e.next := ⟨_, rfl⟩
            have hNX3 : NX = -1 := by rw [hNX2]; exact HNXE.out
            rw [← hNX2] at HKB
            clear hNX2
            subst hNX3
            have HINKt := Lib.hid (HINK.out.step HB5t.out)
            clear HINK HOW5 a0 a1 a2 a3 a4 a5 a6 a7
            obtain ⟨s, hs⟩ : ∃ s, s = e.b.size := ⟨_, rfl⟩
            rw [← hs] at hend hsp HBEL
            have HSS := Lib.hid hs
            clear hs
            go_wp2_with fail
            go_loopw [134, 16] (fun iv v wr => ∃ i : Nat, i ≤ b.all.length ∧ iv = .int .i64 i ∧ wr.ownsRow w5.heap.size 3 1 v (cI m s i) ((List.range' m (cI m s i)).map mkN) ∧ Below w5.heap.size w5 wr) (fun iv _ _ => b.all.length - (intOf iv).toNat)
            case atStart => exact ⟨0, by omega, rfl, by simp only [cI, Nat.zero_sub, Nat.zero_min]; exact World.ownsRow_nil _ _ _ _, Below.refl _ _⟩
            case round =>
              obtain ⟨i, hi, rfl, hown, hbe⟩ := hrel
              have hz := hbe.size
              by_cases hlt : i < b.all.length
              · have hbw := HBt.out.trans (hbe.mono HBt.out.size)
                have hbl := refBelow_any b.all i m gr cr wr (HROWS.out.step hgr hbw) (Nat.lt_of_lt_of_le hgr hbw.size) hcr (by omega) (paths i) (HPATH.out i hlt) (HPLEN.out i hlt)
                rw [HBEL.out i hlt] at hbl
                have HX := Lib.hid hbl
                have HO := Lib.hid hown
                have HB := Lib.hid hbe
                have hq1 : (0 : Int) ≤ (i : Int) := by omega
                have hq2 : (i : Int) < (b.all.length : Int) := by omega
                obtain ⟨p7, c7, rfl⟩ := own_form hown
                clear hown hbe hbw hbl
                by_cases hin : m ≤ i ∧ i < m + s
                · have hc1 : cI m s (i + 1) = cI m s i + 1 := by simp only [cI]; omega
                  have hc2 : i = m + cI m s i := by simp only [cI]; omega
                  have hc3 : cI m s i ≤ 150 := by simp only [cI]; omega
                  have HT : Hid (List.range' m (cI m s (i + 1)) = List.range' m (cI m s i) ++ [i]) := Lib.hid (by
                    rw [hc1, List.range'_concat]
                    congr 2
                    omega)
                  have hbt : (decide (m ≤ i) && decide (i < m + s)) = true := by simp [hin.1, hin.2]
                  rw [hbt] at HX
                  have HC1 := Lib.hid hc1
                  clear hc1 hc2 hbt
                  generalize cI m s i = q at *
                  have HBa : Hid (Below w5.heap.size w5 (wr.alloc (.cells #[.int .i64 (i : Int)] 3))) := Lib.hid (HB.out.alloc hz _)
                  go_wp2_with fail
                  refine HX.out.mono ?_
                  rintro e' u9 ⟨rfl, rfl⟩
                  go_wp2_with (at_builtin; refine wpList_append_own _ rfl _ _ 22 rfl w5.heap.size 3 i0 _ 1 8 Try.underlying22 hi0 hy0 hy1 hy2 rfl (by omega) _ q _ rfl (World.ownsRow.alloc HO.out _) ⟨wr.heap.size, 0, none⟩ 1 1 [.int .i64 (i : Int)] rfl rfl (one_news _ _ _ rfl) (by simp [Value.oneCell']) (by unfold maxLen; omega) (by omega) (by simp; omega) ?_)
                  intro v8 w8 hown8 hgrow _
                  have HO8 : Hid (w8.ownsRow w5.heap.size 3 1 v8 (cI m s (i + 1)) ((List.range' m (cI m s (i + 1))).map mkN)) := Lib.hid (by
                    rw [HT.out, List.map_append, HC1.out]; exact hown8)
                  have HB8 := Lib.hid (HBa.out.grown hgrow (by simp; omega) (own_below HO.out (Nat.le_refl _)))
                  clear hown8 hgrow
                  go_wp2_with fail
                  go_roundw
                  case rel => exact ⟨i + 1, by omega, by go_num, HO8.out, HB8.out⟩
                  case measure => simp [intOf]; omega
                · have hc1 : cI m s (i + 1) = cI m s i := by simp only [cI]; omega
                  have hbt : (decide (m ≤ i) && decide (i < m + s)) = false := by
                    rw [Bool.and_eq_false_iff, decide_eq_false_iff_not, decide_eq_false_iff_not]; omega
                  rw [hbt] at HX
                  have HC1 := Lib.hid hc1
                  clear hc1 hbt
                  go_wp2_with fail
                  refine HX.out.mono ?_
                  rintro e' u9 ⟨rfl, rfl⟩
                  go_wp2_with fail
                  go_roundw
                  case rel => exact ⟨i + 1, by omega, by go_num, by rw [HC1.out]; exact HO.out, HB.out⟩
                  case measure => simp [intOf]; omega
              · have hcs : cI m s i = s := by simp only [cI]; omega
                rw [hcs] at hown
                have hwo := ownN_of (L := List.range' m s) hown (by rw [List.length_range'])
                obtain ⟨p7, c7, hv7, hin7⟩ := own_in hwo
                rw [List.length_range'] at hv7 hin7
                subst hv7
                obtain ⟨wx, hwx⟩ : ∃ wx, wx = wr := ⟨_, rfl⟩
                subst hwx
                have HIN7 := Lib.hid hin7
                have HBX3 := Lib.hid (HBt.out.trans (hbe.mono HBt.out.size))
                have HBX5 := Lib.hid (HB5t.out.trans (hbe.mono HB5t.out.size))
                have HINK2 := Lib.hid (HINKt.out.step hbe)
                have HPM := Lib.hid (HPATH.out m hm)
                have hpl := HPLEN.out m hm
                clear hown hwo hin7 hbe hcs HINKt
                generalize paths m = P at *
                go_wp2_with fail
                go_loopg [19, 17] P.length (fun gk iv v wr2 => ∃ (j : Nat) (x : Int), gk + j = P.length ∧ iv = .int .i64 x ∧ Hid (Climb (fun i => b.all[i]?.map Ent.up) x (P.drop j)) ∧ OwnN wr2 wx.heap.size v (P.take j) ∧ Below wx.heap.size wx wr2)
                case atStart => exact ⟨0, m, by omega, rfl, Lib.hid (by simpa using HPM.out), World.ownsRow_nil _ _ _ _, Below.refl _ _⟩
                case round =>
                  obtain ⟨j, x, hj, rfl, HX9, hown, hbe⟩ := hrel
                  have hz9 := hbe.size
                  by_cases hlt9 : j < P.length
                  · have hx := HX9.out
                    rw [List.drop_eq_getElem_cons hlt9] at hx
                    obtain ⟨rfl, y, hy, hx2⟩ := hx
                    have hy' : b.all[P[j]]?.map Ent.up = some y := hy
                    obtain ⟨e9, he9, rfl⟩ := Option.map_eq_some_iff.1 hy'
                    obtain ⟨hkl9, hee9⟩ := List.getElem?_eq_some_iff.1 he9
                    have hb9 := HBX3.out.trans (hbe.mono HBX3.out.size)
                    have HX2 := Lib.hid hx2
                    have HT := Lib.hid (List.take_succ_eq_append_getElem hlt9)
                    have htl : (P.take j).length = j := by rw [List.length_take]; omega
                    have HO := Lib.hid hown
                    obtain ⟨p9, c9, rfl⟩ := ownN_form hown
                    have HO9 : Hid (wr.ownsRow wx.heap.size 3 1 (.slice p9 j c9) j ((P.take j).map mkN)) := Lib.hid (by have := HO.out; unfold OwnN at this; rwa [htl] at this)
                    have HBa : Hid (Below wx.heap.size wx (wr.alloc (.cells #[.int .i64 ((P[j] : Nat) : Int)] 3))) := Lib.hid (hbe.alloc hz9 _)
                    have hq1 : (0 : Int) ≤ ((P[j] : Nat) : Int) := by omega
                    have hq2 : ((P[j] : Nat) : Int) < (b.all.length : Int) := by omega
                    have hjl : j ≤ 150 := by omega
                    have HR9 : Hid (∀ W, Below w3.heap.size w3 W → W.cell? ⟨gr, P[j] * 8 + 6, none⟩ = some (.int .i64 e9.up)) := Lib.hid fun W hW => by
                      have := (HROWS.out.step hgr hW P[j] hkl9).2.2.2.2.2.2.1
                      rw [hee9] at this
                      exact this
                    clear hown hbe hx2 hy hy' he9 hkl9 hee9 hb9 HX9
                    generalize P[j] = k at *
                    rw [htl]
                    go_wp2_with (at_builtin; refine wpList_append_own _ rfl _ _ 22 rfl wx.heap.size 3 i0 _ 1 8 Try.underlying22 hi0 hy0 hy1 hy2 rfl (by omega) _ j _ rfl (World.ownsRow.alloc HO9.out _) ⟨wr.heap.size, 0, none⟩ 1 1 [.int .i64 (k : Int)] rfl rfl (one_news _ _ _ rfl) (by simp [Value.oneCell']) (by unfold maxLen; omega) (by omega) (by simp; omega) ?_)
                    intro v8 w8 hown8 hgrow _
                    have HB8 := Lib.hid (HBa.out.grown hgrow (by simp; omega) (own_below HO9.out (Nat.le_refl _)))
                    have HO8 : Hid (OwnN w8 wx.heap.size v8 (P.take (j + 1))) := Lib.hid (by
                      unfold OwnN
                      rw [HT.out, List.length_append, List.map_append, htl]
                      simpa using hown8)
                    have a6 := HR9.out w8 (HBX3.out.trans (HB8.out.mono HBX3.out.size))
                    clear hown8 hgrow
                    go_wp2_with fail
                    go_roundg (P.length - (j + 1))
                    case measure => omega
                    case rel => exact ⟨j + 1, e9.up, by omega, rfl, HX2, HO8.out, HB8.out⟩
                  · have hx := HX9.out
                    rw [List.drop_eq_nil_of_le (by omega)] at hx
                    have hx0 : x < 0 := hx
                    have hx1 : ¬ (0 : Int) ≤ x := by omega
                    rw [List.take_of_length_le (by omega)] at hown
                    obtain ⟨p9, c9, hv9, hin9⟩ := own_in hown
                    subst hv9
                    have HIN9 := Lib.hid hin9
                    have HBz := Lib.hid (HBX3.out.trans (hbe.mono HBX3.out.size))
                    have HBz5 := Lib.hid (HBX5.out.trans (hbe.mono HBX5.out.size))
                    have HIN7z := Lib.hid (HIN7.out.step hbe)
                    have HINKz := Lib.hid (HINK2.out.step hbe)
                    obtain ⟨wz, hwz⟩ : ∃ wz, wz = wr := ⟨_, rfl⟩
                    subst hwz
                    have hkp : P.length ≤ 1000 := by omega
                    have hnn7 : e.b.h.ns.length ≤ 1000000 := by rw [← HNN.out]; exact hnn6
                    have hns8 : e.b.h.ns.length * 8 ≤ 140737488355328 := by rw [← HNN.out]; exact hnf
                    have hkl2 : KL.length ≤ 1000 := by omega
                    have hs1000 : m + s ≤ 1000 := by omega
                    have HS : Hid (∀ W, Below wz.heap.size wz W → (W.cell? ⟨w4.heap.size, 0, none⟩ = some (.int .i64 e.b.h.k) ∧ W.cell? ⟨w4.heap.size, 1, none⟩ = some (.int .i64 e.b.h.m) ∧ W.cell? ⟨w4.heap.size, 2, none⟩ = some (.int .i64 e.b.h.f) ∧ W.cell? ⟨w4.heap.size, 3, none⟩ = some (.int .i64 e.b.h.t) ∧ W.cell? ⟨w4.heap.size, 4, none⟩ = some (.int .i64 e.up) ∧ W.cell? ⟨w4.heap.size, 5, none⟩ = some (.int .i64 (-1)) ∧ W.cell? ⟨w4.heap.size, 6, none⟩ = some (.int .i64 (-1)) ∧ W.cell? ⟨gr, m * 8, none⟩ = some (.int .i64 e.b.h.k) ∧ W.cell? ⟨gr, m * 8 + 1, none⟩ = some (.int .i64 e.b.h.m) ∧ W.cell? ⟨gr, m * 8 + 2, none⟩ = some (.int .i64 e.b.h.f) ∧ W.cell? ⟨gr, m * 8 + 3, none⟩ = some (.int .i64 e.b.h.t) ∧ W.cell? ⟨gr, m * 8 + 4, none⟩ = some (.slice e.b.h.np e.b.h.ns.length e.b.h.nc) ∧ W.cell? ⟨gr, m * 8 + 6, none⟩ = some (.int .i64 e.up) ∧ W.cell? ⟨gr, m * 8 + 7, none⟩ = some (.int .i64 e.deep))) := Lib.hid fun W hW => by
                      obtain ⟨k0, k1, k2, k3, k4, k5, k6⟩ := HKB.out W (HB45.out.trans ((HBz5.out.trans (hW.mono HBz5.out.size)).mono HB45.out.size))
                      obtain ⟨a0, a1, a2, a3, a4, a5, a6, a7⟩ := HRM.out W (HBz.out.trans (hW.mono HBz.out.size))
                      rw [HNN.out] at a4
                      exact ⟨k0, k1, k2, k3, k4, k5, k6, a0, a1, a2, a3, a4, a6, a7⟩
                    have HNM : Hid (∀ W, Arena W T g c b.knots → Calls Try.prog 14 #[.pointer (some ⟨T, 0, none⟩), .int .i64 m] W fun e' w' => ∃ p' c', e' = .returned (.slice p' e.b.h.ns.length c') ∧ In mkI w' p' e.b.h.ns.length c' e.b.h.ns ∧ (∀ a, p' = some a → W.heap.size ≤ a.block) ∧ Below W.heap.size W w') := Lib.hid fun W hW => by
                      have := names_yes m W hW hmk
                      rw [knots_get HE.out] at this
                      exact this hns8
                    have HKD : Hid (∀ W, Arena W T g c b.knots → Calls Try.prog 15 #[.pointer (some ⟨T, 0, none⟩), .int .i64 m] W fun e' w' => ∃ p c', e' = .returned (.slice p KL.length c') ∧ In mkI w' p KL.length c' (KL.map fun x : Nat => (x : Int)) ∧ Below W.heap.size W w') := Lib.hid fun W hW => by
                      have := kids_yes m W hW hmk (offs (m + 1) e.b.ks) (by rw [knots_get HE.out]; simp only [Ent.kn, pos_of_all HE.out]; exact chain_knots HE.out) (by rw [HKLE.out]; exact hkl2)
                      rw [HKLE.out] at this
                      refine this.mono ?_
                      rintro e' w' ⟨v, rfl, ho, hb⟩
                      obtain ⟨p, c', rfl, hin⟩ := own_in ho
                      exact ⟨p, c', rfl, hin, hb⟩
                    have HDP : Hid (∀ W, Arena W T g c b.knots → Calls Try.prog 16 #[.pointer (some ⟨T, 0, none⟩), .int .i64 m] W fun e' w' => e' = .returned (.int .i64 e.deep) ∧ W = w') := Lib.hid fun W hW => by
                      have := deep_yes m W hW hmk
                      rw [knots_get HE.out] at this
                      exact this
                    have HWK : Hid (∀ W, Arena W T g c b.knots → Calls Try.prog 17 #[.pointer (some ⟨T, 0, none⟩), .int .i64 m] W fun e' w' => ∃ p c', e' = .returned (.slice p s c') ∧ In mkI w' p s c' ((List.range' m s).map fun x : Nat => (x : Int)) ∧ Below W.heap.size W w') := Lib.hid fun W hW => by
                      have := walk_yes m (m + e.b.size) W hW hmk (by rw [← HSS.out]; exact hs1000) _ (walks_of HE.out (by omega))
                      rw [Nat.add_sub_cancel_left, ← HSS.out] at this
                      refine this.mono ?_
                      rintro e' w' ⟨v, rfl, ho, hb⟩
                      obtain ⟨p, c', rfl, hin⟩ := own_in ho
                      rw [List.length_range'] at hin ⊢
                      exact ⟨p, c', rfl, hin, hb⟩
                    have HPT : Hid (∀ W, Arena W T g c b.knots → Calls Try.prog 18 #[.pointer (some ⟨T, 0, none⟩), .int .i64 m] W fun e' w' => ∃ p c', e' = .returned (.slice p P.length c') ∧ In mkI w' p P.length c' (P.map fun x : Nat => (x : Int)) ∧ Below W.heap.size W w') := Lib.hid fun W hW => by
                      refine (path_yes (m : Int) W hW P (climb_knots HPM.out) hkp).mono ?_
                      rintro e' w' ⟨v, rfl, ho, hb⟩
                      obtain ⟨p, c', rfl, hin⟩ := own_in ho
                      exact ⟨p, c', rfl, hin, hb⟩
                    have HAL9 : Hid (∀ W, Calls Try.prog 9 #[] W fun e' w' => e' = .returned (.bool true) ∧ Below W.heap.size W w') := Lib.hid fun W => alive_any W
                    have HAW : ∀ W, Below wz.heap.size wz W → Arena W T g c b.knots := fun W hW => HA3.out.step (HBz.out.trans (hW.mono HBz.out.size))
                    have HNM2 : ∀ W, Below wz.heap.size wz W → Calls Try.prog 14 #[.pointer (some ⟨T, 0, none⟩), .int .i64 m] W fun e' w' => ∃ p' c', e' = .returned (.slice p' e.b.h.ns.length c') ∧ In mkI w' p' e.b.h.ns.length c' e.b.h.ns ∧ Below W.heap.size W w' := fun W hW => by
                      refine (HNM.out W (HAW W hW)).mono ?_
                      rintro e' w' ⟨p', c', h1, h2, _, h3⟩
                      exact ⟨p', c', h1, h2, h3⟩
                    have hlK : (KL.map fun x : Nat => (x : Int)).length = KL.length := by simp
                    have hlW : ((List.range' m s).map fun x : Nat => (x : Int)).length = s := by simp
                    have hlP : (P.map fun x : Nat => (x : Int)).length = P.length := by simp
                    have HA9 : Hid (∀ W, Below wz.heap.size wz W → In mkI W e.b.h.np e.b.h.ns.length e.b.h.nc e.b.h.ns) := Lib.hid fun W hW => by
                      have := HINN.out.step (HBz.out.trans (hW.mono HBz.out.size))
                      rw [HNN.out] at this
                      exact this
                    have HT33 := Lib.hid (T33.mk (w := wz) (T := T) (gr := gr) (m := m) (kb := w4.heap.size) (n6 := b.all.length) (c6 := cr) (ek := e.b.h.k) (em := e.b.h.m) (ef := e.b.h.f) (et := e.b.h.t) (eu := e.up) (fv := -1) (nx := (-1)) (dp := e.deep) (np := e.b.h.np) (p5 := _) (p7 := p7) (p9 := p9) (nc := e.b.h.nc) (c5 := c5) (c7 := c7) (c9 := c9) (A := e.b.h.ns) (B := KL.map fun x : Nat => (x : Int)) (C := (List.range' m s).map fun x : Nat => (x : Int)) (D := P.map fun x : Nat => (x : Int)) (by omega) (by omega) HS.out HA9.out
                      (fun W hW => by rw [hlK]; exact HINKz.out.step hW) (fun W hW => by rw [hlW]; exact HIN7z.out.step hW) (fun W hW => by rw [hlP]; exact HIN9.out.step hW)
                      hnn7 (by rw [hlK]; omega) (by rw [hlW]; omega) (by rw [hlP]; omega) HNM2
                      (fun W hW => by rw [hlK]; exact HKD.out W (HAW W hW)) (fun W hW => HDP.out W (HAW W hW)) (fun W hW => by rw [hlW]; exact HWK.out W (HAW W hW)) (fun W hW => by rw [hlP]; exact HPT.out W (HAW W hW)) HAL9.out)
                    have HFIN : Hid (∀ W, Below wz.heap.size wz W → Below w.heap.size w W) := Lib.hid fun W hW => B0.out.trans ((HB3.out.trans ((HBz.out.trans (hW.mono HBz.out.size)).mono HB3.out.size)).mono B0.out.size)
                    have HLK := Lib.hid hlK
                    have HLW := Lib.hid hlW
                    have HLP := Lib.hid hlP
                    clear hx HX9 hown hin9 hbe HIN7 HINK2 HPATH HPLEN HBEL HUPS HUP HNX0 HFO HKB HRM HROWS HA2 HB2 HF HQ HBX HFIT HNM HKD HDP HWK HPT HAL9 HS HNM2 HAW HA9 hlK hlW hlP
                    go_wp2_with fail
                    refine tail33 HT33.out ?_ ?_ ?_
                    · rw [HLK.out, HLW.out, HLP.out]
                      exact Fs.of rfl rfl (by first | (simp [Act.eval]; done) | (simp [Act.eval]; omega))
                    · intro c a a' w hd h
                      have h2 : a.defers = [] ∧ _ := h
                      exact ⟨hd.trans h2.1, h2.2⟩
                    · intro a' w' h4 hs hd hB
                      go_wp2_with fail
                      exact bodyPost_ret (results_tmp rfl _ _ _) hd ⟨congrArg Ending.returned h4, HFIN.out _ hB⟩

          · have hu9 : (0 : Int) ≤ e.up := by omega
            have hub : u < b.all.length := by omega
            obtain ⟨eu, heu⟩ : ∃ eu, b.all[u]? = some eu := ⟨_, List.getElem?_eq_getElem hub⟩
            have hki := refKids_any b.all u gr cr w5 (HROWS.out.step hgr HB5.out) (Nat.lt_of_lt_of_le hgr HB5.out.size) hcr (by omega)
            rw [upsAt_all heu, ← kidsOf_at heu, ← hu1] at hki
            have HX := Lib.hid hki
            have hchu := (levels_of b 0 (by omega)).chain u (by rw [HLEN.out, ← HAL.out]; exact hub)
            have hkuL := hchu.2
            have hfind := chain_next (f := fun i => b.knots[i]?.map Kn.next) (m := m) (y := e.next) (by show b.knots[m]?.map Kn.next = some e.next; rw [knots_at, HE.out]; rfl) hchu.1 (by rw [kidsOf_at heu]; exact offs_sorted _ _) ((kid_iff heu m).2 ⟨e, HE.out, hu1⟩)
            have HFD := Lib.hid hfind
            have hu1' := hu1
            clear hki hchu hfind hu1 hu1' heu hu2
            generalize kidsOf b u = L at *
            go_wp2_with fail
            refine HX.out.mono ?_
            rintro e' w6 ⟨v6, rfl, hown6, hb6⟩
            obtain ⟨p6, c6, rfl⟩ := ownN_form hown6
            have hz6 := hb6.size
            have HO6 := Lib.hid hown6
            have HB6 := Lib.hid hb6
            clear hown6 hb6 HX
            go_wp2_with fail
            go_loopw [119, 13] (fun iv nv wr => w6 = wr ∧ ∃ i : Nat, i ≤ L.length ∧ iv = .int .i64 i ∧ nv = .int .i64 (match (L.take i).find? (fun k => decide (m < k)) with | some k => (k : Int) | none => -1)) (fun iv _ _ => L.length - (intOf iv).toNat)
            case atStart => exact ⟨rfl, 0, by omega, rfl, rfl⟩
            case round =>
              obtain ⟨rfl, i, hi, rfl, rfl⟩ := hrel
              by_cases hlt : i < L.length
              · obtain ⟨g6, c6', hv6, _, _, hc6, _⟩ := own_pos HO6.out (by omega)
                injection hv6 with hp6 _ _
                subst hp6
                have c0 : w6.cell? ⟨g6, i, none⟩ = some (.int .i64 ((L[i] : Nat) : Int)) := own_cell HO6.out i _ (by simp [hlt])
                have HFT : Hid ((L.take (i + 1)).find? (fun k => decide (m < k)) = ((L.take i).find? (fun k => decide (m < k))).or (bif decide (m < L[i]) then some L[i] else none)) := Lib.hid (by
                  exact find_take L _ i hlt)
                have hq1 : (0 : Int) ≤ (i : Int) := by omega
                have hq2 : (i : Int) < (L.length : Int) := by omega
                generalize L[i] = k at *
                cases hfi : (L.take i).find? (fun k => decide (m < k)) with
                | some k0 =>
                  have HF2 : Hid ((match (L.take (i + 1)).find? (fun k => decide (m < k)) with | some k => (k : Int) | none => -1) = (k0 : Int)) := Lib.hid (by rw [HFT.out, hfi]; rfl)
                  have hq3 : ¬ ((k0 : Int) < 0) := by omega
                  by_cases hmk2 : (m : Int) < (k : Int)
                  · go_wp2_with fail
                    go_roundw
                    case rel => exact ⟨by first | trivial | rfl, i + 1, by omega, by go_num, by rw [HF2.out]⟩
                    case measure => simp [intOf]; omega
                  · go_wp2_with fail
                    go_roundw
                    case rel => exact ⟨by first | trivial | rfl, i + 1, by omega, by go_num, by rw [HF2.out]⟩
                    case measure => simp [intOf]; omega
                | none =>
                  by_cases hmk2 : (m : Int) < (k : Int)
                  · have HF2 : Hid ((match (L.take (i + 1)).find? (fun k => decide (m < k)) with | some k => (k : Int) | none => -1) = (k : Int)) := Lib.hid (by
                      have hd : decide (m < k) = true := decide_eq_true (by omega)
                      rw [HFT.out, hfi, hd]; rfl)
                    go_wp2_with fail
                    go_roundw
                    case rel => exact ⟨by first | trivial | rfl, i + 1, by omega, by go_num, by rw [HF2.out]⟩
                    case measure => simp [intOf]; omega
                  · have HF2 : Hid ((match (L.take (i + 1)).find? (fun k => decide (m < k)) with | some k => (k : Int) | none => -1) = -1) := Lib.hid (by
                      have hd : decide (m < k) = false := decide_eq_false (by omega)
                      rw [HFT.out, hfi, hd]; rfl)
                    go_wp2_with fail
                    go_roundw
                    case rel => exact ⟨by first | trivial | rfl, i + 1, by omega, by go_num, by rw [HF2.out]⟩
                    case measure => simp [intOf]; omega
              · have hfe : (match (L.take i).find? (fun k => decide (m < k)) with | some k => (k : Int) | none => -1) = e.next := by
                  rw [List.take_of_length_le (by omega)]; exact HFD.out.symm
                rw [hfe]
                have HBt := Lib.hid (HB5.out.trans (HB6.out.mono HB5.out.size))
                have HB5t := Lib.hid HB6.out
                clear hfe
                obtain ⟨NX, hNX2⟩ : ∃ NX, NX = e.next := ⟨_, rfl⟩
                rw [← hNX2] at HKB ⊢
                clear hNX2
                have HINKt := Lib.hid (HINK.out.step HB5t.out)
                clear HINK HOW5 a0 a1 a2 a3 a4 a5 a6 a7
                obtain ⟨s, hs⟩ : ∃ s, s = e.b.size := ⟨_, rfl⟩
                rw [← hs] at hend hsp HBEL
                have HSS := Lib.hid hs
                clear hs
                go_wp2_with fail
                go_loopw [134, 16] (fun iv v wr => ∃ i : Nat, i ≤ b.all.length ∧ iv = .int .i64 i ∧ wr.ownsRow w6.heap.size 3 1 v (cI m s i) ((List.range' m (cI m s i)).map mkN) ∧ Below w6.heap.size w6 wr) (fun iv _ _ => b.all.length - (intOf iv).toNat)
                case atStart => exact ⟨0, by omega, rfl, by simp only [cI, Nat.zero_sub, Nat.zero_min]; exact World.ownsRow_nil _ _ _ _, Below.refl _ _⟩
                case round =>
                  obtain ⟨i, hi, rfl, hown, hbe⟩ := hrel
                  have hz := hbe.size
                  by_cases hlt : i < b.all.length
                  · have hbw := HBt.out.trans (hbe.mono HBt.out.size)
                    have hbl := refBelow_any b.all i m gr cr wr (HROWS.out.step hgr hbw) (Nat.lt_of_lt_of_le hgr hbw.size) hcr (by omega) (paths i) (HPATH.out i hlt) (HPLEN.out i hlt)
                    rw [HBEL.out i hlt] at hbl
                    have HX := Lib.hid hbl
                    have HO := Lib.hid hown
                    have HB := Lib.hid hbe
                    have hq1 : (0 : Int) ≤ (i : Int) := by omega
                    have hq2 : (i : Int) < (b.all.length : Int) := by omega
                    obtain ⟨p7, c7, rfl⟩ := own_form hown
                    clear hown hbe hbw hbl
                    by_cases hin : m ≤ i ∧ i < m + s
                    · have hc1 : cI m s (i + 1) = cI m s i + 1 := by simp only [cI]; omega
                      have hc2 : i = m + cI m s i := by simp only [cI]; omega
                      have hc3 : cI m s i ≤ 150 := by simp only [cI]; omega
                      have HT : Hid (List.range' m (cI m s (i + 1)) = List.range' m (cI m s i) ++ [i]) := Lib.hid (by
                        rw [hc1, List.range'_concat]
                        congr 2
                        omega)
                      have hbt : (decide (m ≤ i) && decide (i < m + s)) = true := by simp [hin.1, hin.2]
                      rw [hbt] at HX
                      have HC1 := Lib.hid hc1
                      clear hc1 hc2 hbt
                      generalize cI m s i = q at *
                      have HBa : Hid (Below w6.heap.size w6 (wr.alloc (.cells #[.int .i64 (i : Int)] 3))) := Lib.hid (HB.out.alloc hz _)
                      go_wp2_with fail
                      refine HX.out.mono ?_
                      rintro e' u9 ⟨rfl, rfl⟩
                      go_wp2_with (at_builtin; refine wpList_append_own _ rfl _ _ 22 rfl w6.heap.size 3 i0 _ 1 8 Try.underlying22 hi0 hy0 hy1 hy2 rfl (by omega) _ q _ rfl (World.ownsRow.alloc HO.out _) ⟨wr.heap.size, 0, none⟩ 1 1 [.int .i64 (i : Int)] rfl rfl (one_news _ _ _ rfl) (by simp [Value.oneCell']) (by unfold maxLen; omega) (by omega) (by simp; omega) ?_)
                      intro v8 w8 hown8 hgrow _
                      have HO8 : Hid (w8.ownsRow w6.heap.size 3 1 v8 (cI m s (i + 1)) ((List.range' m (cI m s (i + 1))).map mkN)) := Lib.hid (by
                        rw [HT.out, List.map_append, HC1.out]; exact hown8)
                      have HB8 := Lib.hid (HBa.out.grown hgrow (by simp; omega) (own_below HO.out (Nat.le_refl _)))
                      clear hown8 hgrow
                      go_wp2_with fail
                      go_roundw
                      case rel => exact ⟨i + 1, by omega, by go_num, HO8.out, HB8.out⟩
                      case measure => simp [intOf]; omega
                    · have hc1 : cI m s (i + 1) = cI m s i := by simp only [cI]; omega
                      have hbt : (decide (m ≤ i) && decide (i < m + s)) = false := by
                        rw [Bool.and_eq_false_iff, decide_eq_false_iff_not, decide_eq_false_iff_not]; omega
                      rw [hbt] at HX
                      have HC1 := Lib.hid hc1
                      clear hc1 hbt
                      go_wp2_with fail
                      refine HX.out.mono ?_
                      rintro e' u9 ⟨rfl, rfl⟩
                      go_wp2_with fail
                      go_roundw
                      case rel => exact ⟨i + 1, by omega, by go_num, by rw [HC1.out]; exact HO.out, HB.out⟩
                      case measure => simp [intOf]; omega
                  · have hcs : cI m s i = s := by simp only [cI]; omega
                    rw [hcs] at hown
                    have hwo := ownN_of (L := List.range' m s) hown (by rw [List.length_range'])
                    obtain ⟨p7, c7, hv7, hin7⟩ := own_in hwo
                    rw [List.length_range'] at hv7 hin7
                    subst hv7
                    obtain ⟨wx, hwx⟩ : ∃ wx, wx = wr := ⟨_, rfl⟩
                    subst hwx
                    have HIN7 := Lib.hid hin7
                    have HBX3 := Lib.hid (HBt.out.trans (hbe.mono HBt.out.size))
                    have HBX5 := Lib.hid (HB5t.out.trans (hbe.mono HB5t.out.size))
                    have HINK2 := Lib.hid (HINKt.out.step hbe)
                    have HPM := Lib.hid (HPATH.out m hm)
                    have hpl := HPLEN.out m hm
                    clear hown hwo hin7 hbe hcs HINKt
                    generalize paths m = P at *
                    go_wp2_with fail
                    go_loopg [19, 17] P.length (fun gk iv v wr2 => ∃ (j : Nat) (x : Int), gk + j = P.length ∧ iv = .int .i64 x ∧ Hid (Climb (fun i => b.all[i]?.map Ent.up) x (P.drop j)) ∧ OwnN wr2 wx.heap.size v (P.take j) ∧ Below wx.heap.size wx wr2)
                    case atStart => exact ⟨0, m, by omega, rfl, Lib.hid (by simpa using HPM.out), World.ownsRow_nil _ _ _ _, Below.refl _ _⟩
                    case round =>
                      obtain ⟨j, x, hj, rfl, HX9, hown, hbe⟩ := hrel
                      have hz9 := hbe.size
                      by_cases hlt9 : j < P.length
                      · have hx := HX9.out
                        rw [List.drop_eq_getElem_cons hlt9] at hx
                        obtain ⟨rfl, y, hy, hx2⟩ := hx
                        have hy' : b.all[P[j]]?.map Ent.up = some y := hy
                        obtain ⟨e9, he9, rfl⟩ := Option.map_eq_some_iff.1 hy'
                        obtain ⟨hkl9, hee9⟩ := List.getElem?_eq_some_iff.1 he9
                        have hb9 := HBX3.out.trans (hbe.mono HBX3.out.size)
                        have HX2 := Lib.hid hx2
                        have HT := Lib.hid (List.take_succ_eq_append_getElem hlt9)
                        have htl : (P.take j).length = j := by rw [List.length_take]; omega
                        have HO := Lib.hid hown
                        obtain ⟨p9, c9, rfl⟩ := ownN_form hown
                        have HO9 : Hid (wr.ownsRow wx.heap.size 3 1 (.slice p9 j c9) j ((P.take j).map mkN)) := Lib.hid (by have := HO.out; unfold OwnN at this; rwa [htl] at this)
                        have HBa : Hid (Below wx.heap.size wx (wr.alloc (.cells #[.int .i64 ((P[j] : Nat) : Int)] 3))) := Lib.hid (hbe.alloc hz9 _)
                        have hq1 : (0 : Int) ≤ ((P[j] : Nat) : Int) := by omega
                        have hq2 : ((P[j] : Nat) : Int) < (b.all.length : Int) := by omega
                        have hjl : j ≤ 150 := by omega
                        have HR9 : Hid (∀ W, Below w3.heap.size w3 W → W.cell? ⟨gr, P[j] * 8 + 6, none⟩ = some (.int .i64 e9.up)) := Lib.hid fun W hW => by
                          have := (HROWS.out.step hgr hW P[j] hkl9).2.2.2.2.2.2.1
                          rw [hee9] at this
                          exact this
                        clear hown hbe hx2 hy hy' he9 hkl9 hee9 hb9 HX9
                        generalize P[j] = k at *
                        rw [htl]
                        go_wp2_with (at_builtin; refine wpList_append_own _ rfl _ _ 22 rfl wx.heap.size 3 i0 _ 1 8 Try.underlying22 hi0 hy0 hy1 hy2 rfl (by omega) _ j _ rfl (World.ownsRow.alloc HO9.out _) ⟨wr.heap.size, 0, none⟩ 1 1 [.int .i64 (k : Int)] rfl rfl (one_news _ _ _ rfl) (by simp [Value.oneCell']) (by unfold maxLen; omega) (by omega) (by simp; omega) ?_)
                        intro v8 w8 hown8 hgrow _
                        have HB8 := Lib.hid (HBa.out.grown hgrow (by simp; omega) (own_below HO9.out (Nat.le_refl _)))
                        have HO8 : Hid (OwnN w8 wx.heap.size v8 (P.take (j + 1))) := Lib.hid (by
                          unfold OwnN
                          rw [HT.out, List.length_append, List.map_append, htl]
                          simpa using hown8)
                        have a6 := HR9.out w8 (HBX3.out.trans (HB8.out.mono HBX3.out.size))
                        clear hown8 hgrow
                        go_wp2_with fail
                        go_roundg (P.length - (j + 1))
                        case measure => omega
                        case rel => exact ⟨j + 1, e9.up, by omega, rfl, HX2, HO8.out, HB8.out⟩
                      · have hx := HX9.out
                        rw [List.drop_eq_nil_of_le (by omega)] at hx
                        have hx0 : x < 0 := hx
                        have hx1 : ¬ (0 : Int) ≤ x := by omega
                        rw [List.take_of_length_le (by omega)] at hown
                        obtain ⟨p9, c9, hv9, hin9⟩ := own_in hown
                        subst hv9
                        have HIN9 := Lib.hid hin9
                        have HBz := Lib.hid (HBX3.out.trans (hbe.mono HBX3.out.size))
                        have HBz5 := Lib.hid (HBX5.out.trans (hbe.mono HBX5.out.size))
                        have HIN7z := Lib.hid (HIN7.out.step hbe)
                        have HINKz := Lib.hid (HINK2.out.step hbe)
                        obtain ⟨wz, hwz⟩ : ∃ wz, wz = wr := ⟨_, rfl⟩
                        subst hwz
                        have hkp : P.length ≤ 1000 := by omega
                        have hnn7 : e.b.h.ns.length ≤ 1000000 := by rw [← HNN.out]; exact hnn6
                        have hns8 : e.b.h.ns.length * 8 ≤ 140737488355328 := by rw [← HNN.out]; exact hnf
                        have hkl2 : KL.length ≤ 1000 := by omega
                        have hs1000 : m + s ≤ 1000 := by omega
                        have HS : Hid (∀ W, Below wz.heap.size wz W → (W.cell? ⟨w4.heap.size, 0, none⟩ = some (.int .i64 e.b.h.k) ∧ W.cell? ⟨w4.heap.size, 1, none⟩ = some (.int .i64 e.b.h.m) ∧ W.cell? ⟨w4.heap.size, 2, none⟩ = some (.int .i64 e.b.h.f) ∧ W.cell? ⟨w4.heap.size, 3, none⟩ = some (.int .i64 e.b.h.t) ∧ W.cell? ⟨w4.heap.size, 4, none⟩ = some (.int .i64 e.up) ∧ W.cell? ⟨w4.heap.size, 5, none⟩ = some (.int .i64 (-1)) ∧ W.cell? ⟨w4.heap.size, 6, none⟩ = some (.int .i64 NX) ∧ W.cell? ⟨gr, m * 8, none⟩ = some (.int .i64 e.b.h.k) ∧ W.cell? ⟨gr, m * 8 + 1, none⟩ = some (.int .i64 e.b.h.m) ∧ W.cell? ⟨gr, m * 8 + 2, none⟩ = some (.int .i64 e.b.h.f) ∧ W.cell? ⟨gr, m * 8 + 3, none⟩ = some (.int .i64 e.b.h.t) ∧ W.cell? ⟨gr, m * 8 + 4, none⟩ = some (.slice e.b.h.np e.b.h.ns.length e.b.h.nc) ∧ W.cell? ⟨gr, m * 8 + 6, none⟩ = some (.int .i64 e.up) ∧ W.cell? ⟨gr, m * 8 + 7, none⟩ = some (.int .i64 e.deep))) := Lib.hid fun W hW => by
                          obtain ⟨k0, k1, k2, k3, k4, k5, k6⟩ := HKB.out W (HB45.out.trans ((HBz5.out.trans (hW.mono HBz5.out.size)).mono HB45.out.size))
                          obtain ⟨a0, a1, a2, a3, a4, a5, a6, a7⟩ := HRM.out W (HBz.out.trans (hW.mono HBz.out.size))
                          rw [HNN.out] at a4
                          exact ⟨k0, k1, k2, k3, k4, k5, k6, a0, a1, a2, a3, a4, a6, a7⟩
                        have HNM : Hid (∀ W, Arena W T g c b.knots → Calls Try.prog 14 #[.pointer (some ⟨T, 0, none⟩), .int .i64 m] W fun e' w' => ∃ p' c', e' = .returned (.slice p' e.b.h.ns.length c') ∧ In mkI w' p' e.b.h.ns.length c' e.b.h.ns ∧ (∀ a, p' = some a → W.heap.size ≤ a.block) ∧ Below W.heap.size W w') := Lib.hid fun W hW => by
                          have := names_yes m W hW hmk
                          rw [knots_get HE.out] at this
                          exact this hns8
                        have HKD : Hid (∀ W, Arena W T g c b.knots → Calls Try.prog 15 #[.pointer (some ⟨T, 0, none⟩), .int .i64 m] W fun e' w' => ∃ p c', e' = .returned (.slice p KL.length c') ∧ In mkI w' p KL.length c' (KL.map fun x : Nat => (x : Int)) ∧ Below W.heap.size W w') := Lib.hid fun W hW => by
                          have := kids_yes m W hW hmk (offs (m + 1) e.b.ks) (by rw [knots_get HE.out]; simp only [Ent.kn, pos_of_all HE.out]; exact chain_knots HE.out) (by rw [HKLE.out]; exact hkl2)
                          rw [HKLE.out] at this
                          refine this.mono ?_
                          rintro e' w' ⟨v, rfl, ho, hb⟩
                          obtain ⟨p, c', rfl, hin⟩ := own_in ho
                          exact ⟨p, c', rfl, hin, hb⟩
                        have HDP : Hid (∀ W, Arena W T g c b.knots → Calls Try.prog 16 #[.pointer (some ⟨T, 0, none⟩), .int .i64 m] W fun e' w' => e' = .returned (.int .i64 e.deep) ∧ W = w') := Lib.hid fun W hW => by
                          have := deep_yes m W hW hmk
                          rw [knots_get HE.out] at this
                          exact this
                        have HWK : Hid (∀ W, Arena W T g c b.knots → Calls Try.prog 17 #[.pointer (some ⟨T, 0, none⟩), .int .i64 m] W fun e' w' => ∃ p c', e' = .returned (.slice p s c') ∧ In mkI w' p s c' ((List.range' m s).map fun x : Nat => (x : Int)) ∧ Below W.heap.size W w') := Lib.hid fun W hW => by
                          have := walk_yes m (m + e.b.size) W hW hmk (by rw [← HSS.out]; exact hs1000) _ (walks_of HE.out (by omega))
                          rw [Nat.add_sub_cancel_left, ← HSS.out] at this
                          refine this.mono ?_
                          rintro e' w' ⟨v, rfl, ho, hb⟩
                          obtain ⟨p, c', rfl, hin⟩ := own_in ho
                          rw [List.length_range'] at hin ⊢
                          exact ⟨p, c', rfl, hin, hb⟩
                        have HPT : Hid (∀ W, Arena W T g c b.knots → Calls Try.prog 18 #[.pointer (some ⟨T, 0, none⟩), .int .i64 m] W fun e' w' => ∃ p c', e' = .returned (.slice p P.length c') ∧ In mkI w' p P.length c' (P.map fun x : Nat => (x : Int)) ∧ Below W.heap.size W w') := Lib.hid fun W hW => by
                          refine (path_yes (m : Int) W hW P (climb_knots HPM.out) hkp).mono ?_
                          rintro e' w' ⟨v, rfl, ho, hb⟩
                          obtain ⟨p, c', rfl, hin⟩ := own_in ho
                          exact ⟨p, c', rfl, hin, hb⟩
                        have HAL9 : Hid (∀ W, Calls Try.prog 9 #[] W fun e' w' => e' = .returned (.bool true) ∧ Below W.heap.size W w') := Lib.hid fun W => alive_any W
                        have HAW : ∀ W, Below wz.heap.size wz W → Arena W T g c b.knots := fun W hW => HA3.out.step (HBz.out.trans (hW.mono HBz.out.size))
                        have HNM2 : ∀ W, Below wz.heap.size wz W → Calls Try.prog 14 #[.pointer (some ⟨T, 0, none⟩), .int .i64 m] W fun e' w' => ∃ p' c', e' = .returned (.slice p' e.b.h.ns.length c') ∧ In mkI w' p' e.b.h.ns.length c' e.b.h.ns ∧ Below W.heap.size W w' := fun W hW => by
                          refine (HNM.out W (HAW W hW)).mono ?_
                          rintro e' w' ⟨p', c', h1, h2, _, h3⟩
                          exact ⟨p', c', h1, h2, h3⟩
                        have hlK : (KL.map fun x : Nat => (x : Int)).length = KL.length := by simp
                        have hlW : ((List.range' m s).map fun x : Nat => (x : Int)).length = s := by simp
                        have hlP : (P.map fun x : Nat => (x : Int)).length = P.length := by simp
                        have HA9 : Hid (∀ W, Below wz.heap.size wz W → In mkI W e.b.h.np e.b.h.ns.length e.b.h.nc e.b.h.ns) := Lib.hid fun W hW => by
                          have := HINN.out.step (HBz.out.trans (hW.mono HBz.out.size))
                          rw [HNN.out] at this
                          exact this
                        have HT33 := Lib.hid (T33.mk (w := wz) (T := T) (gr := gr) (m := m) (kb := w4.heap.size) (n6 := b.all.length) (c6 := cr) (ek := e.b.h.k) (em := e.b.h.m) (ef := e.b.h.f) (et := e.b.h.t) (eu := e.up) (fv := -1) (nx := NX) (dp := e.deep) (np := e.b.h.np) (p5 := _) (p7 := p7) (p9 := p9) (nc := e.b.h.nc) (c5 := c5) (c7 := c7) (c9 := c9) (A := e.b.h.ns) (B := KL.map fun x : Nat => (x : Int)) (C := (List.range' m s).map fun x : Nat => (x : Int)) (D := P.map fun x : Nat => (x : Int)) (by omega) (by omega) HS.out HA9.out
                          (fun W hW => by rw [hlK]; exact HINKz.out.step hW) (fun W hW => by rw [hlW]; exact HIN7z.out.step hW) (fun W hW => by rw [hlP]; exact HIN9.out.step hW)
                          hnn7 (by rw [hlK]; omega) (by rw [hlW]; omega) (by rw [hlP]; omega) HNM2
                          (fun W hW => by rw [hlK]; exact HKD.out W (HAW W hW)) (fun W hW => HDP.out W (HAW W hW)) (fun W hW => by rw [hlW]; exact HWK.out W (HAW W hW)) (fun W hW => by rw [hlP]; exact HPT.out W (HAW W hW)) HAL9.out)
                        have HFIN : Hid (∀ W, Below wz.heap.size wz W → Below w.heap.size w W) := Lib.hid fun W hW => B0.out.trans ((HB3.out.trans ((HBz.out.trans (hW.mono HBz.out.size)).mono HB3.out.size)).mono B0.out.size)
                        have HLK := Lib.hid hlK
                        have HLW := Lib.hid hlW
                        have HLP := Lib.hid hlP
                        clear hx HX9 hown hin9 hbe HIN7 HINK2 HPATH HPLEN HBEL HUPS HUP HNX0 HFO HKB HRM HROWS HA2 HB2 HF HQ HBX HFIT HNM HKD HDP HWK HPT HAL9 HS HNM2 HAW HA9 hlK hlW hlP
                        go_wp2_with fail
                        refine tail33 HT33.out ?_ ?_ ?_
                        · rw [HLK.out, HLW.out, HLP.out]
                          exact Fs.of rfl rfl (by first | (simp [Act.eval]; done) | (simp [Act.eval]; omega))
                        · intro c a a' w hd h
                          have h2 : a.defers = [] ∧ _ := h
                          exact ⟨hd.trans h2.1, h2.2⟩
                        · intro a' w' h4 hs hd hB
                          go_wp2_with fail
                          exact bodyPost_ret (results_tmp rfl _ _ _) hd ⟨congrArg Ending.returned h4, HFIN.out _ hB⟩

        · have hcell0 : ∃ g5, p5 = some ⟨g5, 0, none⟩ ∧ w5.cell? ⟨g5, 0, none⟩ = some (.int .i64 ((m + 1 : Nat) : Int)) ∧ 0 < (offs (m + 1) e.b.ks).length ∧ (offs (m + 1) e.b.ks).length ≤ c5 := by
            obtain ⟨x, r, hxr⟩ := List.exists_cons_of_ne_nil hks
            have hpos : 0 < (offs (m + 1) e.b.ks).length := by rw [offs_length, hxr]; simp
            obtain ⟨g5, c5', hv, _, _, hc, _⟩ := own_pos HOW5.out hpos
            injection hv with h1 h2 h3
            subst h1 h3
            have hx0 : (offs (m + 1) e.b.ks)[0]? = some (m + 1) := by rw [hxr]; rfl
            refine ⟨g5, rfl, own_cell HOW5.out 0 _ (by rw [List.getElem?_map, hx0]; rfl), hpos, hc⟩
          obtain ⟨g5, hp5, hc50, hkl, hkc5⟩ := hcell0
          subst hp5
          have HFV : FV = ((m + 1 : Nat) : Int) := by rw [HFV0.out, hfv]
          subst HFV
          clear hks hfv
          generalize hKL : offs (m + 1) e.b.ks = KL at *
          have HKLE := Lib.hid hKL
          clear hKL
          rcases HUP.out with ⟨hm0, hu1⟩ | ⟨u, hu1, hu2⟩
          · have hNX : e.next = -1 := by
              subst hm0
              have h00 : b.all[0]? = some ⟨b, -1, 1, -1, 0, b.size⟩ := by
                show (b.flat (-1) 1 (-1) b.size 0)[0]? = _
                rw [flat_eq]; rfl
              have := HE.out
              rw [h00] at this
              rw [← Option.some.inj this]
            have hu9 : ¬ (0 : Int) ≤ e.up := by omega
            have HNXE := Lib.hid hNX
            clear hm0 hu1 hNX
            go_wp2_with fail
            have HBt := Lib.hid HB5.out
            have HB5t := Lib.hid (Below.refl w5.heap.size w5)
            obtain ⟨NX, hNX2⟩ : ∃ NX, NX = e.next := ⟨_, rfl⟩
            have hNX3 : NX = -1 := by rw [hNX2]; exact HNXE.out
            rw [← hNX2] at HKB
            clear hNX2
            subst hNX3
            have HINKt := Lib.hid (HINK.out.step HB5t.out)
            clear HINK HOW5 a0 a1 a2 a3 a4 a5 a6 a7
            obtain ⟨s, hs⟩ : ∃ s, s = e.b.size := ⟨_, rfl⟩
            rw [← hs] at hend hsp HBEL
            have HSS := Lib.hid hs
            clear hs
            go_wp2_with fail
            go_loopw [134, 16] (fun iv v wr => ∃ i : Nat, i ≤ b.all.length ∧ iv = .int .i64 i ∧ wr.ownsRow w5.heap.size 3 1 v (cI m s i) ((List.range' m (cI m s i)).map mkN) ∧ Below w5.heap.size w5 wr) (fun iv _ _ => b.all.length - (intOf iv).toNat)
            case atStart => exact ⟨0, by omega, rfl, by simp only [cI, Nat.zero_sub, Nat.zero_min]; exact World.ownsRow_nil _ _ _ _, Below.refl _ _⟩
            case round =>
              obtain ⟨i, hi, rfl, hown, hbe⟩ := hrel
              have hz := hbe.size
              by_cases hlt : i < b.all.length
              · have hbw := HBt.out.trans (hbe.mono HBt.out.size)
                have hbl := refBelow_any b.all i m gr cr wr (HROWS.out.step hgr hbw) (Nat.lt_of_lt_of_le hgr hbw.size) hcr (by omega) (paths i) (HPATH.out i hlt) (HPLEN.out i hlt)
                rw [HBEL.out i hlt] at hbl
                have HX := Lib.hid hbl
                have HO := Lib.hid hown
                have HB := Lib.hid hbe
                have hq1 : (0 : Int) ≤ (i : Int) := by omega
                have hq2 : (i : Int) < (b.all.length : Int) := by omega
                obtain ⟨p7, c7, rfl⟩ := own_form hown
                clear hown hbe hbw hbl
                by_cases hin : m ≤ i ∧ i < m + s
                · have hc1 : cI m s (i + 1) = cI m s i + 1 := by simp only [cI]; omega
                  have hc2 : i = m + cI m s i := by simp only [cI]; omega
                  have hc3 : cI m s i ≤ 150 := by simp only [cI]; omega
                  have HT : Hid (List.range' m (cI m s (i + 1)) = List.range' m (cI m s i) ++ [i]) := Lib.hid (by
                    rw [hc1, List.range'_concat]
                    congr 2
                    omega)
                  have hbt : (decide (m ≤ i) && decide (i < m + s)) = true := by simp [hin.1, hin.2]
                  rw [hbt] at HX
                  have HC1 := Lib.hid hc1
                  clear hc1 hc2 hbt
                  generalize cI m s i = q at *
                  have HBa : Hid (Below w5.heap.size w5 (wr.alloc (.cells #[.int .i64 (i : Int)] 3))) := Lib.hid (HB.out.alloc hz _)
                  go_wp2_with fail
                  refine HX.out.mono ?_
                  rintro e' u9 ⟨rfl, rfl⟩
                  go_wp2_with (at_builtin; refine wpList_append_own _ rfl _ _ 22 rfl w5.heap.size 3 i0 _ 1 8 Try.underlying22 hi0 hy0 hy1 hy2 rfl (by omega) _ q _ rfl (World.ownsRow.alloc HO.out _) ⟨wr.heap.size, 0, none⟩ 1 1 [.int .i64 (i : Int)] rfl rfl (one_news _ _ _ rfl) (by simp [Value.oneCell']) (by unfold maxLen; omega) (by omega) (by simp; omega) ?_)
                  intro v8 w8 hown8 hgrow _
                  have HO8 : Hid (w8.ownsRow w5.heap.size 3 1 v8 (cI m s (i + 1)) ((List.range' m (cI m s (i + 1))).map mkN)) := Lib.hid (by
                    rw [HT.out, List.map_append, HC1.out]; exact hown8)
                  have HB8 := Lib.hid (HBa.out.grown hgrow (by simp; omega) (own_below HO.out (Nat.le_refl _)))
                  clear hown8 hgrow
                  go_wp2_with fail
                  go_roundw
                  case rel => exact ⟨i + 1, by omega, by go_num, HO8.out, HB8.out⟩
                  case measure => simp [intOf]; omega
                · have hc1 : cI m s (i + 1) = cI m s i := by simp only [cI]; omega
                  have hbt : (decide (m ≤ i) && decide (i < m + s)) = false := by
                    rw [Bool.and_eq_false_iff, decide_eq_false_iff_not, decide_eq_false_iff_not]; omega
                  rw [hbt] at HX
                  have HC1 := Lib.hid hc1
                  clear hc1 hbt
                  go_wp2_with fail
                  refine HX.out.mono ?_
                  rintro e' u9 ⟨rfl, rfl⟩
                  go_wp2_with fail
                  go_roundw
                  case rel => exact ⟨i + 1, by omega, by go_num, by rw [HC1.out]; exact HO.out, HB.out⟩
                  case measure => simp [intOf]; omega
              · have hcs : cI m s i = s := by simp only [cI]; omega
                rw [hcs] at hown
                have hwo := ownN_of (L := List.range' m s) hown (by rw [List.length_range'])
                obtain ⟨p7, c7, hv7, hin7⟩ := own_in hwo
                rw [List.length_range'] at hv7 hin7
                subst hv7
                obtain ⟨wx, hwx⟩ : ∃ wx, wx = wr := ⟨_, rfl⟩
                subst hwx
                have HIN7 := Lib.hid hin7
                have HBX3 := Lib.hid (HBt.out.trans (hbe.mono HBt.out.size))
                have HBX5 := Lib.hid (HB5t.out.trans (hbe.mono HB5t.out.size))
                have HINK2 := Lib.hid (HINKt.out.step hbe)
                have HPM := Lib.hid (HPATH.out m hm)
                have hpl := HPLEN.out m hm
                clear hown hwo hin7 hbe hcs HINKt
                generalize paths m = P at *
                go_wp2_with fail
                go_loopg [19, 17] P.length (fun gk iv v wr2 => ∃ (j : Nat) (x : Int), gk + j = P.length ∧ iv = .int .i64 x ∧ Hid (Climb (fun i => b.all[i]?.map Ent.up) x (P.drop j)) ∧ OwnN wr2 wx.heap.size v (P.take j) ∧ Below wx.heap.size wx wr2)
                case atStart => exact ⟨0, m, by omega, rfl, Lib.hid (by simpa using HPM.out), World.ownsRow_nil _ _ _ _, Below.refl _ _⟩
                case round =>
                  obtain ⟨j, x, hj, rfl, HX9, hown, hbe⟩ := hrel
                  have hz9 := hbe.size
                  by_cases hlt9 : j < P.length
                  · have hx := HX9.out
                    rw [List.drop_eq_getElem_cons hlt9] at hx
                    obtain ⟨rfl, y, hy, hx2⟩ := hx
                    have hy' : b.all[P[j]]?.map Ent.up = some y := hy
                    obtain ⟨e9, he9, rfl⟩ := Option.map_eq_some_iff.1 hy'
                    obtain ⟨hkl9, hee9⟩ := List.getElem?_eq_some_iff.1 he9
                    have hb9 := HBX3.out.trans (hbe.mono HBX3.out.size)
                    have HX2 := Lib.hid hx2
                    have HT := Lib.hid (List.take_succ_eq_append_getElem hlt9)
                    have htl : (P.take j).length = j := by rw [List.length_take]; omega
                    have HO := Lib.hid hown
                    obtain ⟨p9, c9, rfl⟩ := ownN_form hown
                    have HO9 : Hid (wr.ownsRow wx.heap.size 3 1 (.slice p9 j c9) j ((P.take j).map mkN)) := Lib.hid (by have := HO.out; unfold OwnN at this; rwa [htl] at this)
                    have HBa : Hid (Below wx.heap.size wx (wr.alloc (.cells #[.int .i64 ((P[j] : Nat) : Int)] 3))) := Lib.hid (hbe.alloc hz9 _)
                    have hq1 : (0 : Int) ≤ ((P[j] : Nat) : Int) := by omega
                    have hq2 : ((P[j] : Nat) : Int) < (b.all.length : Int) := by omega
                    have hjl : j ≤ 150 := by omega
                    have HR9 : Hid (∀ W, Below w3.heap.size w3 W → W.cell? ⟨gr, P[j] * 8 + 6, none⟩ = some (.int .i64 e9.up)) := Lib.hid fun W hW => by
                      have := (HROWS.out.step hgr hW P[j] hkl9).2.2.2.2.2.2.1
                      rw [hee9] at this
                      exact this
                    clear hown hbe hx2 hy hy' he9 hkl9 hee9 hb9 HX9
                    generalize P[j] = k at *
                    rw [htl]
                    go_wp2_with (at_builtin; refine wpList_append_own _ rfl _ _ 22 rfl wx.heap.size 3 i0 _ 1 8 Try.underlying22 hi0 hy0 hy1 hy2 rfl (by omega) _ j _ rfl (World.ownsRow.alloc HO9.out _) ⟨wr.heap.size, 0, none⟩ 1 1 [.int .i64 (k : Int)] rfl rfl (one_news _ _ _ rfl) (by simp [Value.oneCell']) (by unfold maxLen; omega) (by omega) (by simp; omega) ?_)
                    intro v8 w8 hown8 hgrow _
                    have HB8 := Lib.hid (HBa.out.grown hgrow (by simp; omega) (own_below HO9.out (Nat.le_refl _)))
                    have HO8 : Hid (OwnN w8 wx.heap.size v8 (P.take (j + 1))) := Lib.hid (by
                      unfold OwnN
                      rw [HT.out, List.length_append, List.map_append, htl]
                      simpa using hown8)
                    have a6 := HR9.out w8 (HBX3.out.trans (HB8.out.mono HBX3.out.size))
                    clear hown8 hgrow
                    go_wp2_with fail
                    go_roundg (P.length - (j + 1))
                    case measure => omega
                    case rel => exact ⟨j + 1, e9.up, by omega, rfl, HX2, HO8.out, HB8.out⟩
                  · have hx := HX9.out
                    rw [List.drop_eq_nil_of_le (by omega)] at hx
                    have hx0 : x < 0 := hx
                    have hx1 : ¬ (0 : Int) ≤ x := by omega
                    rw [List.take_of_length_le (by omega)] at hown
                    obtain ⟨p9, c9, hv9, hin9⟩ := own_in hown
                    subst hv9
                    have HIN9 := Lib.hid hin9
                    have HBz := Lib.hid (HBX3.out.trans (hbe.mono HBX3.out.size))
                    have HBz5 := Lib.hid (HBX5.out.trans (hbe.mono HBX5.out.size))
                    have HIN7z := Lib.hid (HIN7.out.step hbe)
                    have HINKz := Lib.hid (HINK2.out.step hbe)
                    obtain ⟨wz, hwz⟩ : ∃ wz, wz = wr := ⟨_, rfl⟩
                    subst hwz
                    have hkp : P.length ≤ 1000 := by omega
                    have hnn7 : e.b.h.ns.length ≤ 1000000 := by rw [← HNN.out]; exact hnn6
                    have hns8 : e.b.h.ns.length * 8 ≤ 140737488355328 := by rw [← HNN.out]; exact hnf
                    have hkl2 : KL.length ≤ 1000 := by omega
                    have hs1000 : m + s ≤ 1000 := by omega
                    have HS : Hid (∀ W, Below wz.heap.size wz W → (W.cell? ⟨w4.heap.size, 0, none⟩ = some (.int .i64 e.b.h.k) ∧ W.cell? ⟨w4.heap.size, 1, none⟩ = some (.int .i64 e.b.h.m) ∧ W.cell? ⟨w4.heap.size, 2, none⟩ = some (.int .i64 e.b.h.f) ∧ W.cell? ⟨w4.heap.size, 3, none⟩ = some (.int .i64 e.b.h.t) ∧ W.cell? ⟨w4.heap.size, 4, none⟩ = some (.int .i64 e.up) ∧ W.cell? ⟨w4.heap.size, 5, none⟩ = some (.int .i64 (((m + 1 : Nat) : Int))) ∧ W.cell? ⟨w4.heap.size, 6, none⟩ = some (.int .i64 (-1)) ∧ W.cell? ⟨gr, m * 8, none⟩ = some (.int .i64 e.b.h.k) ∧ W.cell? ⟨gr, m * 8 + 1, none⟩ = some (.int .i64 e.b.h.m) ∧ W.cell? ⟨gr, m * 8 + 2, none⟩ = some (.int .i64 e.b.h.f) ∧ W.cell? ⟨gr, m * 8 + 3, none⟩ = some (.int .i64 e.b.h.t) ∧ W.cell? ⟨gr, m * 8 + 4, none⟩ = some (.slice e.b.h.np e.b.h.ns.length e.b.h.nc) ∧ W.cell? ⟨gr, m * 8 + 6, none⟩ = some (.int .i64 e.up) ∧ W.cell? ⟨gr, m * 8 + 7, none⟩ = some (.int .i64 e.deep))) := Lib.hid fun W hW => by
                      obtain ⟨k0, k1, k2, k3, k4, k5, k6⟩ := HKB.out W (HB45.out.trans ((HBz5.out.trans (hW.mono HBz5.out.size)).mono HB45.out.size))
                      obtain ⟨a0, a1, a2, a3, a4, a5, a6, a7⟩ := HRM.out W (HBz.out.trans (hW.mono HBz.out.size))
                      rw [HNN.out] at a4
                      exact ⟨k0, k1, k2, k3, k4, k5, k6, a0, a1, a2, a3, a4, a6, a7⟩
                    have HNM : Hid (∀ W, Arena W T g c b.knots → Calls Try.prog 14 #[.pointer (some ⟨T, 0, none⟩), .int .i64 m] W fun e' w' => ∃ p' c', e' = .returned (.slice p' e.b.h.ns.length c') ∧ In mkI w' p' e.b.h.ns.length c' e.b.h.ns ∧ (∀ a, p' = some a → W.heap.size ≤ a.block) ∧ Below W.heap.size W w') := Lib.hid fun W hW => by
                      have := names_yes m W hW hmk
                      rw [knots_get HE.out] at this
                      exact this hns8
                    have HKD : Hid (∀ W, Arena W T g c b.knots → Calls Try.prog 15 #[.pointer (some ⟨T, 0, none⟩), .int .i64 m] W fun e' w' => ∃ p c', e' = .returned (.slice p KL.length c') ∧ In mkI w' p KL.length c' (KL.map fun x : Nat => (x : Int)) ∧ Below W.heap.size W w') := Lib.hid fun W hW => by
                      have := kids_yes m W hW hmk (offs (m + 1) e.b.ks) (by rw [knots_get HE.out]; simp only [Ent.kn, pos_of_all HE.out]; exact chain_knots HE.out) (by rw [HKLE.out]; exact hkl2)
                      rw [HKLE.out] at this
                      refine this.mono ?_
                      rintro e' w' ⟨v, rfl, ho, hb⟩
                      obtain ⟨p, c', rfl, hin⟩ := own_in ho
                      exact ⟨p, c', rfl, hin, hb⟩
                    have HDP : Hid (∀ W, Arena W T g c b.knots → Calls Try.prog 16 #[.pointer (some ⟨T, 0, none⟩), .int .i64 m] W fun e' w' => e' = .returned (.int .i64 e.deep) ∧ W = w') := Lib.hid fun W hW => by
                      have := deep_yes m W hW hmk
                      rw [knots_get HE.out] at this
                      exact this
                    have HWK : Hid (∀ W, Arena W T g c b.knots → Calls Try.prog 17 #[.pointer (some ⟨T, 0, none⟩), .int .i64 m] W fun e' w' => ∃ p c', e' = .returned (.slice p s c') ∧ In mkI w' p s c' ((List.range' m s).map fun x : Nat => (x : Int)) ∧ Below W.heap.size W w') := Lib.hid fun W hW => by
                      have := walk_yes m (m + e.b.size) W hW hmk (by rw [← HSS.out]; exact hs1000) _ (walks_of HE.out (by omega))
                      rw [Nat.add_sub_cancel_left, ← HSS.out] at this
                      refine this.mono ?_
                      rintro e' w' ⟨v, rfl, ho, hb⟩
                      obtain ⟨p, c', rfl, hin⟩ := own_in ho
                      rw [List.length_range'] at hin ⊢
                      exact ⟨p, c', rfl, hin, hb⟩
                    have HPT : Hid (∀ W, Arena W T g c b.knots → Calls Try.prog 18 #[.pointer (some ⟨T, 0, none⟩), .int .i64 m] W fun e' w' => ∃ p c', e' = .returned (.slice p P.length c') ∧ In mkI w' p P.length c' (P.map fun x : Nat => (x : Int)) ∧ Below W.heap.size W w') := Lib.hid fun W hW => by
                      refine (path_yes (m : Int) W hW P (climb_knots HPM.out) hkp).mono ?_
                      rintro e' w' ⟨v, rfl, ho, hb⟩
                      obtain ⟨p, c', rfl, hin⟩ := own_in ho
                      exact ⟨p, c', rfl, hin, hb⟩
                    have HAL9 : Hid (∀ W, Calls Try.prog 9 #[] W fun e' w' => e' = .returned (.bool true) ∧ Below W.heap.size W w') := Lib.hid fun W => alive_any W
                    have HAW : ∀ W, Below wz.heap.size wz W → Arena W T g c b.knots := fun W hW => HA3.out.step (HBz.out.trans (hW.mono HBz.out.size))
                    have HNM2 : ∀ W, Below wz.heap.size wz W → Calls Try.prog 14 #[.pointer (some ⟨T, 0, none⟩), .int .i64 m] W fun e' w' => ∃ p' c', e' = .returned (.slice p' e.b.h.ns.length c') ∧ In mkI w' p' e.b.h.ns.length c' e.b.h.ns ∧ Below W.heap.size W w' := fun W hW => by
                      refine (HNM.out W (HAW W hW)).mono ?_
                      rintro e' w' ⟨p', c', h1, h2, _, h3⟩
                      exact ⟨p', c', h1, h2, h3⟩
                    have hlK : (KL.map fun x : Nat => (x : Int)).length = KL.length := by simp
                    have hlW : ((List.range' m s).map fun x : Nat => (x : Int)).length = s := by simp
                    have hlP : (P.map fun x : Nat => (x : Int)).length = P.length := by simp
                    have HA9 : Hid (∀ W, Below wz.heap.size wz W → In mkI W e.b.h.np e.b.h.ns.length e.b.h.nc e.b.h.ns) := Lib.hid fun W hW => by
                      have := HINN.out.step (HBz.out.trans (hW.mono HBz.out.size))
                      rw [HNN.out] at this
                      exact this
                    have HT33 := Lib.hid (T33.mk (w := wz) (T := T) (gr := gr) (m := m) (kb := w4.heap.size) (n6 := b.all.length) (c6 := cr) (ek := e.b.h.k) (em := e.b.h.m) (ef := e.b.h.f) (et := e.b.h.t) (eu := e.up) (fv := ((m + 1 : Nat) : Int)) (nx := (-1)) (dp := e.deep) (np := e.b.h.np) (p5 := _) (p7 := p7) (p9 := p9) (nc := e.b.h.nc) (c5 := c5) (c7 := c7) (c9 := c9) (A := e.b.h.ns) (B := KL.map fun x : Nat => (x : Int)) (C := (List.range' m s).map fun x : Nat => (x : Int)) (D := P.map fun x : Nat => (x : Int)) (by omega) (by omega) HS.out HA9.out
                      (fun W hW => by rw [hlK]; exact HINKz.out.step hW) (fun W hW => by rw [hlW]; exact HIN7z.out.step hW) (fun W hW => by rw [hlP]; exact HIN9.out.step hW)
                      hnn7 (by rw [hlK]; omega) (by rw [hlW]; omega) (by rw [hlP]; omega) HNM2
                      (fun W hW => by rw [hlK]; exact HKD.out W (HAW W hW)) (fun W hW => HDP.out W (HAW W hW)) (fun W hW => by rw [hlW]; exact HWK.out W (HAW W hW)) (fun W hW => by rw [hlP]; exact HPT.out W (HAW W hW)) HAL9.out)
                    have HFIN : Hid (∀ W, Below wz.heap.size wz W → Below w.heap.size w W) := Lib.hid fun W hW => B0.out.trans ((HB3.out.trans ((HBz.out.trans (hW.mono HBz.out.size)).mono HB3.out.size)).mono B0.out.size)
                    have HLK := Lib.hid hlK
                    have HLW := Lib.hid hlW
                    have HLP := Lib.hid hlP
                    clear hx HX9 hown hin9 hbe HIN7 HINK2 HPATH HPLEN HBEL HUPS HUP HNX0 HFO HKB HRM HROWS HA2 HB2 HF HQ HBX HFIT HNM HKD HDP HWK HPT HAL9 HS HNM2 HAW HA9 hlK hlW hlP
                    go_wp2_with fail
                    refine tail33 HT33.out ?_ ?_ ?_
                    · rw [HLK.out, HLW.out, HLP.out]
                      exact Fs.of rfl rfl (by first | (simp [Act.eval]; done) | (simp [Act.eval]; omega))
                    · intro c a a' w hd h
                      have h2 : a.defers = [] ∧ _ := h
                      exact ⟨hd.trans h2.1, h2.2⟩
                    · intro a' w' h4 hs hd hB
                      go_wp2_with fail
                      exact bodyPost_ret (results_tmp rfl _ _ _) hd ⟨congrArg Ending.returned h4, HFIN.out _ hB⟩

          · have hu9 : (0 : Int) ≤ e.up := by omega
            have hub : u < b.all.length := by omega
            obtain ⟨eu, heu⟩ : ∃ eu, b.all[u]? = some eu := ⟨_, List.getElem?_eq_getElem hub⟩
            have hki := refKids_any b.all u gr cr w5 (HROWS.out.step hgr HB5.out) (Nat.lt_of_lt_of_le hgr HB5.out.size) hcr (by omega)
            rw [upsAt_all heu, ← kidsOf_at heu, ← hu1] at hki
            have HX := Lib.hid hki
            have hchu := (levels_of b 0 (by omega)).chain u (by rw [HLEN.out, ← HAL.out]; exact hub)
            have hkuL := hchu.2
            have hfind := chain_next (f := fun i => b.knots[i]?.map Kn.next) (m := m) (y := e.next) (by show b.knots[m]?.map Kn.next = some e.next; rw [knots_at, HE.out]; rfl) hchu.1 (by rw [kidsOf_at heu]; exact offs_sorted _ _) ((kid_iff heu m).2 ⟨e, HE.out, hu1⟩)
            have HFD := Lib.hid hfind
            have hu1' := hu1
            clear hki hchu hfind hu1 hu1' heu hu2
            generalize kidsOf b u = L at *
            go_wp2_with fail
            refine HX.out.mono ?_
            rintro e' w6 ⟨v6, rfl, hown6, hb6⟩
            obtain ⟨p6, c6, rfl⟩ := ownN_form hown6
            have hz6 := hb6.size
            have HO6 := Lib.hid hown6
            have HB6 := Lib.hid hb6
            clear hown6 hb6 HX
            go_wp2_with fail
            go_loopw [119, 13] (fun iv nv wr => w6 = wr ∧ ∃ i : Nat, i ≤ L.length ∧ iv = .int .i64 i ∧ nv = .int .i64 (match (L.take i).find? (fun k => decide (m < k)) with | some k => (k : Int) | none => -1)) (fun iv _ _ => L.length - (intOf iv).toNat)
            case atStart => exact ⟨rfl, 0, by omega, rfl, rfl⟩
            case round =>
              obtain ⟨rfl, i, hi, rfl, rfl⟩ := hrel
              by_cases hlt : i < L.length
              · obtain ⟨g6, c6', hv6, _, _, hc6, _⟩ := own_pos HO6.out (by omega)
                injection hv6 with hp6 _ _
                subst hp6
                have c0 : w6.cell? ⟨g6, i, none⟩ = some (.int .i64 ((L[i] : Nat) : Int)) := own_cell HO6.out i _ (by simp [hlt])
                have HFT : Hid ((L.take (i + 1)).find? (fun k => decide (m < k)) = ((L.take i).find? (fun k => decide (m < k))).or (bif decide (m < L[i]) then some L[i] else none)) := Lib.hid (by
                  exact find_take L _ i hlt)
                have hq1 : (0 : Int) ≤ (i : Int) := by omega
                have hq2 : (i : Int) < (L.length : Int) := by omega
                generalize L[i] = k at *
                cases hfi : (L.take i).find? (fun k => decide (m < k)) with
                | some k0 =>
                  have HF2 : Hid ((match (L.take (i + 1)).find? (fun k => decide (m < k)) with | some k => (k : Int) | none => -1) = (k0 : Int)) := Lib.hid (by rw [HFT.out, hfi]; rfl)
                  have hq3 : ¬ ((k0 : Int) < 0) := by omega
                  by_cases hmk2 : (m : Int) < (k : Int)
                  · go_wp2_with fail
                    go_roundw
                    case rel => exact ⟨by first | trivial | rfl, i + 1, by omega, by go_num, by rw [HF2.out]⟩
                    case measure => simp [intOf]; omega
                  · go_wp2_with fail
                    go_roundw
                    case rel => exact ⟨by first | trivial | rfl, i + 1, by omega, by go_num, by rw [HF2.out]⟩
                    case measure => simp [intOf]; omega
                | none =>
                  by_cases hmk2 : (m : Int) < (k : Int)
                  · have HF2 : Hid ((match (L.take (i + 1)).find? (fun k => decide (m < k)) with | some k => (k : Int) | none => -1) = (k : Int)) := Lib.hid (by
                      have hd : decide (m < k) = true := decide_eq_true (by omega)
                      rw [HFT.out, hfi, hd]; rfl)
                    go_wp2_with fail
                    go_roundw
                    case rel => exact ⟨by first | trivial | rfl, i + 1, by omega, by go_num, by rw [HF2.out]⟩
                    case measure => simp [intOf]; omega
                  · have HF2 : Hid ((match (L.take (i + 1)).find? (fun k => decide (m < k)) with | some k => (k : Int) | none => -1) = -1) := Lib.hid (by
                      have hd : decide (m < k) = false := decide_eq_false (by omega)
                      rw [HFT.out, hfi, hd]; rfl)
                    go_wp2_with fail
                    go_roundw
                    case rel => exact ⟨by first | trivial | rfl, i + 1, by omega, by go_num, by rw [HF2.out]⟩
                    case measure => simp [intOf]; omega
              · have hfe : (match (L.take i).find? (fun k => decide (m < k)) with | some k => (k : Int) | none => -1) = e.next := by
                  rw [List.take_of_length_le (by omega)]; exact HFD.out.symm
                rw [hfe]
                have HBt := Lib.hid (HB5.out.trans (HB6.out.mono HB5.out.size))
                have HB5t := Lib.hid HB6.out
                clear hfe
                obtain ⟨NX, hNX2⟩ : ∃ NX, NX = e.next := ⟨_, rfl⟩
                rw [← hNX2] at HKB ⊢
                clear hNX2
                have HINKt := Lib.hid (HINK.out.step HB5t.out)
                clear HINK HOW5 a0 a1 a2 a3 a4 a5 a6 a7
                obtain ⟨s, hs⟩ : ∃ s, s = e.b.size := ⟨_, rfl⟩
                rw [← hs] at hend hsp HBEL
                have HSS := Lib.hid hs
                clear hs
                go_wp2_with fail
                go_loopw [134, 16] (fun iv v wr => ∃ i : Nat, i ≤ b.all.length ∧ iv = .int .i64 i ∧ wr.ownsRow w6.heap.size 3 1 v (cI m s i) ((List.range' m (cI m s i)).map mkN) ∧ Below w6.heap.size w6 wr) (fun iv _ _ => b.all.length - (intOf iv).toNat)
                case atStart => exact ⟨0, by omega, rfl, by simp only [cI, Nat.zero_sub, Nat.zero_min]; exact World.ownsRow_nil _ _ _ _, Below.refl _ _⟩
                case round =>
                  obtain ⟨i, hi, rfl, hown, hbe⟩ := hrel
                  have hz := hbe.size
                  by_cases hlt : i < b.all.length
                  · have hbw := HBt.out.trans (hbe.mono HBt.out.size)
                    have hbl := refBelow_any b.all i m gr cr wr (HROWS.out.step hgr hbw) (Nat.lt_of_lt_of_le hgr hbw.size) hcr (by omega) (paths i) (HPATH.out i hlt) (HPLEN.out i hlt)
                    rw [HBEL.out i hlt] at hbl
                    have HX := Lib.hid hbl
                    have HO := Lib.hid hown
                    have HB := Lib.hid hbe
                    have hq1 : (0 : Int) ≤ (i : Int) := by omega
                    have hq2 : (i : Int) < (b.all.length : Int) := by omega
                    obtain ⟨p7, c7, rfl⟩ := own_form hown
                    clear hown hbe hbw hbl
                    by_cases hin : m ≤ i ∧ i < m + s
                    · have hc1 : cI m s (i + 1) = cI m s i + 1 := by simp only [cI]; omega
                      have hc2 : i = m + cI m s i := by simp only [cI]; omega
                      have hc3 : cI m s i ≤ 150 := by simp only [cI]; omega
                      have HT : Hid (List.range' m (cI m s (i + 1)) = List.range' m (cI m s i) ++ [i]) := Lib.hid (by
                        rw [hc1, List.range'_concat]
                        congr 2
                        omega)
                      have hbt : (decide (m ≤ i) && decide (i < m + s)) = true := by simp [hin.1, hin.2]
                      rw [hbt] at HX
                      have HC1 := Lib.hid hc1
                      clear hc1 hc2 hbt
                      generalize cI m s i = q at *
                      have HBa : Hid (Below w6.heap.size w6 (wr.alloc (.cells #[.int .i64 (i : Int)] 3))) := Lib.hid (HB.out.alloc hz _)
                      go_wp2_with fail
                      refine HX.out.mono ?_
                      rintro e' u9 ⟨rfl, rfl⟩
                      go_wp2_with (at_builtin; refine wpList_append_own _ rfl _ _ 22 rfl w6.heap.size 3 i0 _ 1 8 Try.underlying22 hi0 hy0 hy1 hy2 rfl (by omega) _ q _ rfl (World.ownsRow.alloc HO.out _) ⟨wr.heap.size, 0, none⟩ 1 1 [.int .i64 (i : Int)] rfl rfl (one_news _ _ _ rfl) (by simp [Value.oneCell']) (by unfold maxLen; omega) (by omega) (by simp; omega) ?_)
                      intro v8 w8 hown8 hgrow _
                      have HO8 : Hid (w8.ownsRow w6.heap.size 3 1 v8 (cI m s (i + 1)) ((List.range' m (cI m s (i + 1))).map mkN)) := Lib.hid (by
                        rw [HT.out, List.map_append, HC1.out]; exact hown8)
                      have HB8 := Lib.hid (HBa.out.grown hgrow (by simp; omega) (own_below HO.out (Nat.le_refl _)))
                      clear hown8 hgrow
                      go_wp2_with fail
                      go_roundw
                      case rel => exact ⟨i + 1, by omega, by go_num, HO8.out, HB8.out⟩
                      case measure => simp [intOf]; omega
                    · have hc1 : cI m s (i + 1) = cI m s i := by simp only [cI]; omega
                      have hbt : (decide (m ≤ i) && decide (i < m + s)) = false := by
                        rw [Bool.and_eq_false_iff, decide_eq_false_iff_not, decide_eq_false_iff_not]; omega
                      rw [hbt] at HX
                      have HC1 := Lib.hid hc1
                      clear hc1 hbt
                      go_wp2_with fail
                      refine HX.out.mono ?_
                      rintro e' u9 ⟨rfl, rfl⟩
                      go_wp2_with fail
                      go_roundw
                      case rel => exact ⟨i + 1, by omega, by go_num, by rw [HC1.out]; exact HO.out, HB.out⟩
                      case measure => simp [intOf]; omega
                  · have hcs : cI m s i = s := by simp only [cI]; omega
                    rw [hcs] at hown
                    have hwo := ownN_of (L := List.range' m s) hown (by rw [List.length_range'])
                    obtain ⟨p7, c7, hv7, hin7⟩ := own_in hwo
                    rw [List.length_range'] at hv7 hin7
                    subst hv7
                    obtain ⟨wx, hwx⟩ : ∃ wx, wx = wr := ⟨_, rfl⟩
                    subst hwx
                    have HIN7 := Lib.hid hin7
                    have HBX3 := Lib.hid (HBt.out.trans (hbe.mono HBt.out.size))
                    have HBX5 := Lib.hid (HB5t.out.trans (hbe.mono HB5t.out.size))
                    have HINK2 := Lib.hid (HINKt.out.step hbe)
                    have HPM := Lib.hid (HPATH.out m hm)
                    have hpl := HPLEN.out m hm
                    clear hown hwo hin7 hbe hcs HINKt
                    generalize paths m = P at *
                    go_wp2_with fail
                    go_loopg [19, 17] P.length (fun gk iv v wr2 => ∃ (j : Nat) (x : Int), gk + j = P.length ∧ iv = .int .i64 x ∧ Hid (Climb (fun i => b.all[i]?.map Ent.up) x (P.drop j)) ∧ OwnN wr2 wx.heap.size v (P.take j) ∧ Below wx.heap.size wx wr2)
                    case atStart => exact ⟨0, m, by omega, rfl, Lib.hid (by simpa using HPM.out), World.ownsRow_nil _ _ _ _, Below.refl _ _⟩
                    case round =>
                      obtain ⟨j, x, hj, rfl, HX9, hown, hbe⟩ := hrel
                      have hz9 := hbe.size
                      by_cases hlt9 : j < P.length
                      · have hx := HX9.out
                        rw [List.drop_eq_getElem_cons hlt9] at hx
                        obtain ⟨rfl, y, hy, hx2⟩ := hx
                        have hy' : b.all[P[j]]?.map Ent.up = some y := hy
                        obtain ⟨e9, he9, rfl⟩ := Option.map_eq_some_iff.1 hy'
                        obtain ⟨hkl9, hee9⟩ := List.getElem?_eq_some_iff.1 he9
                        have hb9 := HBX3.out.trans (hbe.mono HBX3.out.size)
                        have HX2 := Lib.hid hx2
                        have HT := Lib.hid (List.take_succ_eq_append_getElem hlt9)
                        have htl : (P.take j).length = j := by rw [List.length_take]; omega
                        have HO := Lib.hid hown
                        obtain ⟨p9, c9, rfl⟩ := ownN_form hown
                        have HO9 : Hid (wr.ownsRow wx.heap.size 3 1 (.slice p9 j c9) j ((P.take j).map mkN)) := Lib.hid (by have := HO.out; unfold OwnN at this; rwa [htl] at this)
                        have HBa : Hid (Below wx.heap.size wx (wr.alloc (.cells #[.int .i64 ((P[j] : Nat) : Int)] 3))) := Lib.hid (hbe.alloc hz9 _)
                        have hq1 : (0 : Int) ≤ ((P[j] : Nat) : Int) := by omega
                        have hq2 : ((P[j] : Nat) : Int) < (b.all.length : Int) := by omega
                        have hjl : j ≤ 150 := by omega
                        have HR9 : Hid (∀ W, Below w3.heap.size w3 W → W.cell? ⟨gr, P[j] * 8 + 6, none⟩ = some (.int .i64 e9.up)) := Lib.hid fun W hW => by
                          have := (HROWS.out.step hgr hW P[j] hkl9).2.2.2.2.2.2.1
                          rw [hee9] at this
                          exact this
                        clear hown hbe hx2 hy hy' he9 hkl9 hee9 hb9 HX9
                        generalize P[j] = k at *
                        rw [htl]
                        go_wp2_with (at_builtin; refine wpList_append_own _ rfl _ _ 22 rfl wx.heap.size 3 i0 _ 1 8 Try.underlying22 hi0 hy0 hy1 hy2 rfl (by omega) _ j _ rfl (World.ownsRow.alloc HO9.out _) ⟨wr.heap.size, 0, none⟩ 1 1 [.int .i64 (k : Int)] rfl rfl (one_news _ _ _ rfl) (by simp [Value.oneCell']) (by unfold maxLen; omega) (by omega) (by simp; omega) ?_)
                        intro v8 w8 hown8 hgrow _
                        have HB8 := Lib.hid (HBa.out.grown hgrow (by simp; omega) (own_below HO9.out (Nat.le_refl _)))
                        have HO8 : Hid (OwnN w8 wx.heap.size v8 (P.take (j + 1))) := Lib.hid (by
                          unfold OwnN
                          rw [HT.out, List.length_append, List.map_append, htl]
                          simpa using hown8)
                        have a6 := HR9.out w8 (HBX3.out.trans (HB8.out.mono HBX3.out.size))
                        clear hown8 hgrow
                        go_wp2_with fail
                        go_roundg (P.length - (j + 1))
                        case measure => omega
                        case rel => exact ⟨j + 1, e9.up, by omega, rfl, HX2, HO8.out, HB8.out⟩
                      · have hx := HX9.out
                        rw [List.drop_eq_nil_of_le (by omega)] at hx
                        have hx0 : x < 0 := hx
                        have hx1 : ¬ (0 : Int) ≤ x := by omega
                        rw [List.take_of_length_le (by omega)] at hown
                        obtain ⟨p9, c9, hv9, hin9⟩ := own_in hown
                        subst hv9
                        have HIN9 := Lib.hid hin9
                        have HBz := Lib.hid (HBX3.out.trans (hbe.mono HBX3.out.size))
                        have HBz5 := Lib.hid (HBX5.out.trans (hbe.mono HBX5.out.size))
                        have HIN7z := Lib.hid (HIN7.out.step hbe)
                        have HINKz := Lib.hid (HINK2.out.step hbe)
                        obtain ⟨wz, hwz⟩ : ∃ wz, wz = wr := ⟨_, rfl⟩
                        subst hwz
                        have hkp : P.length ≤ 1000 := by omega
                        have hnn7 : e.b.h.ns.length ≤ 1000000 := by rw [← HNN.out]; exact hnn6
                        have hns8 : e.b.h.ns.length * 8 ≤ 140737488355328 := by rw [← HNN.out]; exact hnf
                        have hkl2 : KL.length ≤ 1000 := by omega
                        have hs1000 : m + s ≤ 1000 := by omega
                        have HS : Hid (∀ W, Below wz.heap.size wz W → (W.cell? ⟨w4.heap.size, 0, none⟩ = some (.int .i64 e.b.h.k) ∧ W.cell? ⟨w4.heap.size, 1, none⟩ = some (.int .i64 e.b.h.m) ∧ W.cell? ⟨w4.heap.size, 2, none⟩ = some (.int .i64 e.b.h.f) ∧ W.cell? ⟨w4.heap.size, 3, none⟩ = some (.int .i64 e.b.h.t) ∧ W.cell? ⟨w4.heap.size, 4, none⟩ = some (.int .i64 e.up) ∧ W.cell? ⟨w4.heap.size, 5, none⟩ = some (.int .i64 (((m + 1 : Nat) : Int))) ∧ W.cell? ⟨w4.heap.size, 6, none⟩ = some (.int .i64 NX) ∧ W.cell? ⟨gr, m * 8, none⟩ = some (.int .i64 e.b.h.k) ∧ W.cell? ⟨gr, m * 8 + 1, none⟩ = some (.int .i64 e.b.h.m) ∧ W.cell? ⟨gr, m * 8 + 2, none⟩ = some (.int .i64 e.b.h.f) ∧ W.cell? ⟨gr, m * 8 + 3, none⟩ = some (.int .i64 e.b.h.t) ∧ W.cell? ⟨gr, m * 8 + 4, none⟩ = some (.slice e.b.h.np e.b.h.ns.length e.b.h.nc) ∧ W.cell? ⟨gr, m * 8 + 6, none⟩ = some (.int .i64 e.up) ∧ W.cell? ⟨gr, m * 8 + 7, none⟩ = some (.int .i64 e.deep))) := Lib.hid fun W hW => by
                          obtain ⟨k0, k1, k2, k3, k4, k5, k6⟩ := HKB.out W (HB45.out.trans ((HBz5.out.trans (hW.mono HBz5.out.size)).mono HB45.out.size))
                          obtain ⟨a0, a1, a2, a3, a4, a5, a6, a7⟩ := HRM.out W (HBz.out.trans (hW.mono HBz.out.size))
                          rw [HNN.out] at a4
                          exact ⟨k0, k1, k2, k3, k4, k5, k6, a0, a1, a2, a3, a4, a6, a7⟩
                        have HNM : Hid (∀ W, Arena W T g c b.knots → Calls Try.prog 14 #[.pointer (some ⟨T, 0, none⟩), .int .i64 m] W fun e' w' => ∃ p' c', e' = .returned (.slice p' e.b.h.ns.length c') ∧ In mkI w' p' e.b.h.ns.length c' e.b.h.ns ∧ (∀ a, p' = some a → W.heap.size ≤ a.block) ∧ Below W.heap.size W w') := Lib.hid fun W hW => by
                          have := names_yes m W hW hmk
                          rw [knots_get HE.out] at this
                          exact this hns8
                        have HKD : Hid (∀ W, Arena W T g c b.knots → Calls Try.prog 15 #[.pointer (some ⟨T, 0, none⟩), .int .i64 m] W fun e' w' => ∃ p c', e' = .returned (.slice p KL.length c') ∧ In mkI w' p KL.length c' (KL.map fun x : Nat => (x : Int)) ∧ Below W.heap.size W w') := Lib.hid fun W hW => by
                          have := kids_yes m W hW hmk (offs (m + 1) e.b.ks) (by rw [knots_get HE.out]; simp only [Ent.kn, pos_of_all HE.out]; exact chain_knots HE.out) (by rw [HKLE.out]; exact hkl2)
                          rw [HKLE.out] at this
                          refine this.mono ?_
                          rintro e' w' ⟨v, rfl, ho, hb⟩
                          obtain ⟨p, c', rfl, hin⟩ := own_in ho
                          exact ⟨p, c', rfl, hin, hb⟩
                        have HDP : Hid (∀ W, Arena W T g c b.knots → Calls Try.prog 16 #[.pointer (some ⟨T, 0, none⟩), .int .i64 m] W fun e' w' => e' = .returned (.int .i64 e.deep) ∧ W = w') := Lib.hid fun W hW => by
                          have := deep_yes m W hW hmk
                          rw [knots_get HE.out] at this
                          exact this
                        have HWK : Hid (∀ W, Arena W T g c b.knots → Calls Try.prog 17 #[.pointer (some ⟨T, 0, none⟩), .int .i64 m] W fun e' w' => ∃ p c', e' = .returned (.slice p s c') ∧ In mkI w' p s c' ((List.range' m s).map fun x : Nat => (x : Int)) ∧ Below W.heap.size W w') := Lib.hid fun W hW => by
                          have := walk_yes m (m + e.b.size) W hW hmk (by rw [← HSS.out]; exact hs1000) _ (walks_of HE.out (by omega))
                          rw [Nat.add_sub_cancel_left, ← HSS.out] at this
                          refine this.mono ?_
                          rintro e' w' ⟨v, rfl, ho, hb⟩
                          obtain ⟨p, c', rfl, hin⟩ := own_in ho
                          rw [List.length_range'] at hin ⊢
                          exact ⟨p, c', rfl, hin, hb⟩
                        have HPT : Hid (∀ W, Arena W T g c b.knots → Calls Try.prog 18 #[.pointer (some ⟨T, 0, none⟩), .int .i64 m] W fun e' w' => ∃ p c', e' = .returned (.slice p P.length c') ∧ In mkI w' p P.length c' (P.map fun x : Nat => (x : Int)) ∧ Below W.heap.size W w') := Lib.hid fun W hW => by
                          refine (path_yes (m : Int) W hW P (climb_knots HPM.out) hkp).mono ?_
                          rintro e' w' ⟨v, rfl, ho, hb⟩
                          obtain ⟨p, c', rfl, hin⟩ := own_in ho
                          exact ⟨p, c', rfl, hin, hb⟩
                        have HAL9 : Hid (∀ W, Calls Try.prog 9 #[] W fun e' w' => e' = .returned (.bool true) ∧ Below W.heap.size W w') := Lib.hid fun W => alive_any W
                        have HAW : ∀ W, Below wz.heap.size wz W → Arena W T g c b.knots := fun W hW => HA3.out.step (HBz.out.trans (hW.mono HBz.out.size))
                        have HNM2 : ∀ W, Below wz.heap.size wz W → Calls Try.prog 14 #[.pointer (some ⟨T, 0, none⟩), .int .i64 m] W fun e' w' => ∃ p' c', e' = .returned (.slice p' e.b.h.ns.length c') ∧ In mkI w' p' e.b.h.ns.length c' e.b.h.ns ∧ Below W.heap.size W w' := fun W hW => by
                          refine (HNM.out W (HAW W hW)).mono ?_
                          rintro e' w' ⟨p', c', h1, h2, _, h3⟩
                          exact ⟨p', c', h1, h2, h3⟩
                        have hlK : (KL.map fun x : Nat => (x : Int)).length = KL.length := by simp
                        have hlW : ((List.range' m s).map fun x : Nat => (x : Int)).length = s := by simp
                        have hlP : (P.map fun x : Nat => (x : Int)).length = P.length := by simp
                        have HA9 : Hid (∀ W, Below wz.heap.size wz W → In mkI W e.b.h.np e.b.h.ns.length e.b.h.nc e.b.h.ns) := Lib.hid fun W hW => by
                          have := HINN.out.step (HBz.out.trans (hW.mono HBz.out.size))
                          rw [HNN.out] at this
                          exact this
                        have HT33 := Lib.hid (T33.mk (w := wz) (T := T) (gr := gr) (m := m) (kb := w4.heap.size) (n6 := b.all.length) (c6 := cr) (ek := e.b.h.k) (em := e.b.h.m) (ef := e.b.h.f) (et := e.b.h.t) (eu := e.up) (fv := ((m + 1 : Nat) : Int)) (nx := NX) (dp := e.deep) (np := e.b.h.np) (p5 := _) (p7 := p7) (p9 := p9) (nc := e.b.h.nc) (c5 := c5) (c7 := c7) (c9 := c9) (A := e.b.h.ns) (B := KL.map fun x : Nat => (x : Int)) (C := (List.range' m s).map fun x : Nat => (x : Int)) (D := P.map fun x : Nat => (x : Int)) (by omega) (by omega) HS.out HA9.out
                          (fun W hW => by rw [hlK]; exact HINKz.out.step hW) (fun W hW => by rw [hlW]; exact HIN7z.out.step hW) (fun W hW => by rw [hlP]; exact HIN9.out.step hW)
                          hnn7 (by rw [hlK]; omega) (by rw [hlW]; omega) (by rw [hlP]; omega) HNM2
                          (fun W hW => by rw [hlK]; exact HKD.out W (HAW W hW)) (fun W hW => HDP.out W (HAW W hW)) (fun W hW => by rw [hlW]; exact HWK.out W (HAW W hW)) (fun W hW => by rw [hlP]; exact HPT.out W (HAW W hW)) HAL9.out)
                        have HFIN : Hid (∀ W, Below wz.heap.size wz W → Below w.heap.size w W) := Lib.hid fun W hW => B0.out.trans ((HB3.out.trans ((HBz.out.trans (hW.mono HBz.out.size)).mono HB3.out.size)).mono B0.out.size)
                        have HLK := Lib.hid hlK
                        have HLW := Lib.hid hlW
                        have HLP := Lib.hid hlP
                        clear hx HX9 hown hin9 hbe HIN7 HINK2 HPATH HPLEN HBEL HUPS HUP HNX0 HFO HKB HRM HROWS HA2 HB2 HF HQ HBX HFIT HNM HKD HDP HWK HPT HAL9 HS HNM2 HAW HA9 hlK hlW hlP
                        go_wp2_with fail
                        refine tail33 HT33.out ?_ ?_ ?_
                        · rw [HLK.out, HLW.out, HLP.out]
                          exact Fs.of rfl rfl (by first | (simp [Act.eval]; done) | (simp [Act.eval]; omega))
                        · intro c a a' w hd h
                          have h2 : a.defers = [] ∧ _ := h
                          exact ⟨hd.trans h2.1, h2.2⟩
                        · intro a' w' h4 hs hd hB
                          go_wp2_with fail
                          exact bodyPost_ret (results_tmp rfl _ _ _) hd ⟨congrArg Ending.returned h4, HFIN.out _ hB⟩


end Go.Proofs.Ytcijjeflojaocaa
