/-
  Whether a graph is right, by the document (R.Right), walked.
-/
import Derived.Test.YtggoajpemffbiaaRfm
namespace Go.Proofs.Ytggoajpemffbiaa
open Go.RowKit
set_option maxRecDepth 20000
set_option linter.unusedVariables false
set_option linter.unusedSimpArgs false

set_option maxHeartbeats 32000000 in
theorem rright_any (g : Gr) (E : List Int) (L : List P2) (V : List Int) (qo : Option Addr) (no co : Nat) (O : List Oc) (w : World) (h : GrIn w g E L V) (hO : OS w qo no co O) (hn : g.ne ≤ 1000) (hno : no ≤ 1000) (hl : g.nl ≤ 1000) :
    Calls Try.prog 10 #[g.v, .slice qo no co] w fun e w' => e = .returned (.bool (rightB E L V O)) ∧ Below w.heap.size w w' := by
  have hle := h.e.1
  have hlv := h.v.1
  have hll := h.l.1
  have hlo := hO.1
  obtain ⟨qe, ne, ce, ql, nl, cl, qv, nv, cv⟩ := g
  simp only [Gr.v] at *
  have b1 : Below w.heap.size w (w.alloc (.cells #[.slice qe ne ce, .slice ql nl cl, .slice qv nv cv] 25)) := (Below.refl _ _).alloc (Nat.le_refl _) _
  have e1 := heap_new w (.cells #[.slice qe ne ce, .slice ql nl cl, .slice qv nv cv] 25)
  have HB0 := Lib.hid b1
  by_cases hlen : ne = no ∧ nv = no
  · obtain ⟨h1, h2⟩ := hlen
    subst h1
    subst h2
    have hLB : Hid (lensB E V O = true) := Lib.hid (by unfold lensB; simp; omega)
    have HIE := Lib.hid h.e
    have HIV := Lib.hid h.v
    have HIL := Lib.hid h.l
    have HIO := Lib.hid hO
    have HLE := Lib.hid hle
    have HLV := Lib.hid hlv
    have HLL := Lib.hid hll
    have HLO := Lib.hid hlo
    clear h hO hle hlv hll hlo hno
    go_enter Try.func10, Try.ntmps10
    go_upto_region 2 with fail
    obtain ⟨W1, hW1⟩ : ∃ W1, W1 = w.alloc (.cells #[.slice qe nv ce, .slice ql nl cl, .slice qv nv cv] 25) := ⟨_, rfl⟩
    rw [← hW1] at e1 HB0 b1 ⊢
    obtain ⟨B, hB⟩ : ∃ B, B = w.heap.size := ⟨_, rfl⟩
    rw [← hB] at e1 ⊢
    have HX := Lib.hid e1
    obtain ⟨c0, c1, c2⟩ := boxg e1
    clear hB hW1 b1 e1
    go_wp2_with fail
    clear c0 c1 c2
    go_loopw [6] (fun i wr => ∃ k : Nat, k ≤ nv ∧ i = .int .i64 k ∧ Hid (∀ j, j < k → okI O E V j = true) ∧ Hid (Below W1.heap.size W1 wr)) (fun i _ => nv - (intOf i).toNat)
    case atStart => exact ⟨0, by omega, rfl, Lib.hid (fun j hj => by omega), Lib.hid (Below.refl _ _)⟩
    case round =>
      obtain ⟨k, hk, rfl, HK, HB2⟩ := hrel
      have HBw := Lib.hid (HB0.out.trans (HB2.out.mono HB0.out.size))
      have HXw := Lib.hid (heap_step HX.out HB2.out)
      by_cases hlt : k < nv
      · obtain ⟨hxx, h0 | ⟨go, oo, rfl, hco, hgo, hato⟩⟩ := HIO.out
        · omega
        obtain ⟨hxy, h0 | ⟨ge, oe, rfl, hce, hge, hate⟩⟩ := HIE.out
        · omega
        obtain ⟨hxz, h0 | ⟨gv, ov, rfl, hcv, hgv, hatv⟩⟩ := HIV.out
        · omega
        clear hxx hxy hxz
        obtain ⟨o, ho⟩ : ∃ o, O[k]? = some o := ⟨_, List.getElem?_eq_getElem (by have := HLO.out; omega)⟩
        obtain ⟨e, he⟩ : ∃ e, E[k]? = some e := ⟨_, List.getElem?_eq_getElem (by have := HLE.out; omega)⟩
        obtain ⟨v, hv⟩ : ∃ v, V[k]? = some v := ⟨_, List.getElem?_eq_getElem (by have := HLV.out; omega)⟩
        obtain ⟨o0, o1, o2, o3, o4⟩ := hato k o ho
        rw [← HBw.out.cell (p := ⟨go, _, none⟩) hgo] at o0 o1 o2 o3 o4
        have ce0 := (HBw.out.cell (p := ⟨ge, oe + k, none⟩) hge).trans (hate k e he)
        have cv0 := (HBw.out.cell (p := ⟨gv, ov + k, none⟩) hgv).trans (hatv k v hv)
        have r1 : (0 : Int) ≤ (k : Int) := by omega
        have r2 : (k : Int) < (nv : Int) := by omega
        have HOK := Lib.hid (okI_at ho he hv)
        have HKN : Hid (okE O k o e v = true → ∀ j, j < k + 1 → okI O E V j = true) := Lib.hid fun h j hj => by
          by_cases hjk : j = k
          · subst hjk; rw [HOK.out]; exact h
          · exact HK.out j (by omega)
        have HNO : Hid (okE O k o e v = false → rightB E L V O = false) := Lib.hid fun h => right_no_e (i := k) (by have := HLO.out; omega) (by rw [HOK.out]; exact h)
        have HAT := Lib.hid hato
        have HOLD : Hid (O.length = nv) := Lib.hid (by have := HLO.out; omega)
        obtain ⟨c0, c1, c2⟩ := boxg HXw.out
        clear hate hatv ho he hv hato o0 o1 o2 hlt
        go_wp2_with fail
        by_cases hin : 0 ≤ e ∧ e < nv
        · obtain ⟨i, rfl⟩ : ∃ i : Nat, e = (i : Int) := ⟨e.toNat, by omega⟩
          obtain ⟨y, hy⟩ : ∃ y, O[i]? = some y := ⟨_, List.getElem?_eq_getElem (by have := HOLD.out; omega)⟩
          obtain ⟨_, _, _, y3, y4⟩ := HAT.out i y hy
          rw [← HBw.out.cell (p := ⟨go, _, none⟩) hgo] at y3 y4
          have q1 : (0 : Int) ≤ (i : Int) := by omega
          have q2 : (i : Int) < (nv : Int) := by omega
          have hd1 : decide ((i : Int) < 0) = false := by simp
          have hd2 : decide ((nv : Int) ≤ (i : Int)) = false := by simp; omega
          have hd3 : decide (nv ≤ i) = false := by simp; omega
          have hsd := decl_at hy
          have hss := spc_at hy
          clear hy hin
          cases hyd : y.d with
          | false =>
            have HF := Lib.hid (HNO.out (by unfold okE; rw [hsd, hyd]; simp))
            rw [hyd] at y4
            clear hsd hss hyd
            go_quiet (fail)
            go_wp2_with fail
            go_ret
            exact ⟨by rw [HF.out]; rfl, below_drewN HBw.out _⟩
          | true =>
            rw [hyd] at y4
            by_cases hsp : y.s = o.s
            · have hq : (y.s != o.s) = false := by simpa using hsp
              by_cases hv1 : v < -1
              · have HF := Lib.hid (HNO.out (by unfold okE; simp [hv1]))
                have hd4 : decide (v < -1) = true := by simpa using hv1
                clear hsd hss hyd hsp hv1
                go_quiet (fail)
                go_wp2_with fail
                go_ret
                exact ⟨by rw [HF.out]; rfl, below_drewN HBw.out _⟩
              · have HEQ : Hid (okE O k o (i : Int) v = (!o.d || (decide ((i : Int) = (k : Int)) && decide (v = -1)))) := Lib.hid (by unfold okE; rw [hsd, hyd, hss, hsp]; simp [hv1])
                have hd4 : decide (v < -1) = false := by simpa using hv1
                clear hsd hss hyd hsp hv1
                go_quiet (fail)
                have o4' : (wr.drewN nq).cell? ⟨go, oo + k * 5 + 4, none⟩ = some (.bool o.d) := o4
                have cv0' : (wr.drewN nq).cell? ⟨gv, ov + k, none⟩ = some (.int .i64 v) := cv0
                have c2' : (wr.drewN nq).cell? ⟨B, 2, none⟩ = some (.slice (some ⟨gv, ov, none⟩) nv cv) := c2
                have HB2q := Lib.hid (below_drewN HB2.out nq)
                have HBwq := Lib.hid (below_drewN HBw.out nq)
                clear o3 o4 cv0 c0 c1 c2 ce0 y3 y4
                generalize wr.drewN nq = wq at *
                cases hod : o.d with
                | false =>
                  rw [hod] at o4' HEQ
                  have HKY := Lib.hid (HKN.out (by rw [HEQ.out]; rfl))
                  clear hod
                  go_wp2_with fail
                  go_roundw
                  case rel => exact ⟨k + 1, by omega, by go_num, HKY, HB2q⟩
                  case measure => simp [intOf]; omega
                | true =>
                  rw [hod] at o4' HEQ
                  clear hod
                  by_cases hjk : i = k
                  · have hjb : ((i : Int) != (k : Int)) = false := by simp [hjk]
                    by_cases hvm : v = -1
                    · have hvb : (v != -1) = false := by simpa using hvm
                      have HKY := Lib.hid (HKN.out (by rw [HEQ.out]; simp [hjk, hvm]))
                      clear hjk hvm
                      go_wp2_with fail
                      go_roundw
                      case rel => exact ⟨k + 1, by omega, by go_num, HKY, HB2q⟩
                      case measure => simp [intOf]; omega
                    · have hvb : (v != -1) = true := by simpa using hvm
                      have HF := Lib.hid (HNO.out (by rw [HEQ.out]; simp [hvm]))
                      clear hjk hvm
                      go_wp2_with fail
                      go_ret
                      exact ⟨by rw [HF.out]; rfl, HBwq.out⟩
                  · have hjb : ((i : Int) != (k : Int)) = true := by simp; omega
                    have HF := Lib.hid (HNO.out (by rw [HEQ.out]; have : ¬ (i : Int) = (k : Int) := by omega
                                                    simp [this]))
                    clear hjk
                    go_wp2_with fail
                    go_ret
                    exact ⟨by rw [HF.out]; rfl, HBwq.out⟩
            · have hq : (y.s != o.s) = true := by simpa using hsp
              have HF := Lib.hid (HNO.out (by unfold okE; rw [hss]; simp [hsp]))
              clear hsd hss hyd hsp
              go_quiet (fail)
              go_wp2_with fail
              go_ret
              exact ⟨by rw [HF.out]; rfl, below_drewN HBw.out _⟩
        · have HF := Lib.hid (HNO.out (by unfold okE; rw [decl_out (by have := HOLD.out; omega)]; simp))
          by_cases he0 : e < 0
          · have hd1 : decide (e < 0) = true := by simpa using he0
            clear hin he0
            go_quiet (fail)
            go_wp2_with fail
            go_ret
            exact ⟨by rw [HF.out]; rfl, below_drewN HBw.out _⟩
          · obtain ⟨i, rfl⟩ : ∃ i : Nat, e = (i : Int) := ⟨e.toNat, by omega⟩
            have hd1 : decide ((i : Int) < 0) = false := by simp
            have hd2 : decide ((nv : Int) ≤ (i : Int)) = true := by simp; omega
            have hd3 : decide (nv ≤ i) = true := by simp; omega
            clear hin he0
            go_quiet (fail)
            go_wp2_with fail
            go_ret
            exact ⟨by rw [HF.out]; rfl, below_drewN HBw.out _⟩
      · have hkn : k = nv := by omega
        have HKA : Hid (∀ j, j < O.length → okI O E V j = true) := Lib.hid fun j hj => HK.out j (by have := HLO.out; omega)
        clear hkn HK
        go_wp2_with fail
        clear hlt
        go_loopw [8] (fun i wr => ∃ m : Nat, m ≤ nl ∧ i = .int .i64 m ∧ Hid (∀ j, j < m → okL O L j = true) ∧ Hid (Below W1.heap.size W1 wr)) (fun i _ => nl - (intOf i).toNat)
        case atStart => exact ⟨0, by omega, rfl, Lib.hid (fun j hj => by omega), HB2⟩
        case round =>
          obtain ⟨m, hm, rfl, HK, HBz⟩ := hrel
          clear HBw HB2 HXw
          have HBy := Lib.hid (HB0.out.trans (HBz.out.mono HB0.out.size))
          have HXy := Lib.hid (heap_step HX.out HBz.out)
          obtain ⟨c0, c1, c2⟩ := boxg HXy.out
          by_cases hltm : m < nl
          · obtain ⟨hxx, h0 | ⟨gl, ol, rfl, hcl, hgl, hatl⟩⟩ := HIL.out
            · omega
            clear hxx
            obtain ⟨p, hp⟩ : ∃ p, L[m]? = some p := ⟨_, List.getElem?_eq_getElem (by have := HLL.out; omega)⟩
            obtain ⟨l0, l1⟩ := hatl m p hp
            rw [← HBy.out.cell (p := ⟨gl, _, none⟩) hgl] at l0 l1
            have bz := HBy.out.size
            have r1 : (0 : Int) ≤ (m : Int) := by omega
            have r2 : (m : Int) < (nl : Int) := by omega
            have HOK := Lib.hid (okL_at (O := O) hp)
            have hb1 : Below wr.heap.size wr (wr.alloc (.cells #[.int .i64 p.1, .int .i64 p.2] 40)) := (Below.refl _ _).alloc (Nat.le_refl _) _
            have HBw1 := Lib.hid (HBy.out.trans (hb1.mono bz))
            have HB21 := Lib.hid (HBz.out.trans (hb1.mono HBz.out.size))
            have HX1 := Lib.hid (heap_step HXy.out hb1)
            have HKN : Hid (okP O L m p = true → ∀ j, j < m + 1 → okL O L j = true) := Lib.hid fun h j hj => by
              by_cases hjk : j = m
              · subst hjk; rw [HOK.out]; exact h
              · exact HK.out j (by omega)
            have HNO : Hid (okP O L m p = false → rightB E L V O = false) := Lib.hid fun h => right_no_l (i := m) (by have := HLL.out; omega) (by rw [HOK.out]; exact h)
            have hx1 := heap_new wr (.cells #[.int .i64 p.1, .int .i64 p.2] 40)
            have HATL := Lib.hid hatl
            obtain ⟨T, hT⟩ : ∃ T, T = wr.heap.size := ⟨_, rfl⟩
            clear hp hatl
            go_wp2_with fail
            rw [← hT] at hx1 ⊢
            clear l0 l1 bz hT hb1 c0 c1 c2
            obtain ⟨pa, pb⟩ := p
            simp only at hx1 HOK HX1 HKN HNO HBw1 HB21 ⊢
            generalize wr.alloc (.cells #[.int .i64 pa, .int .i64 pb] 40) = w1 at *
            have t0 : w1.cell? ⟨T, 0, none⟩ = some (.int .i64 pa) := (cellH hx1 0).trans rfl
            have t1 : w1.cell? ⟨T, 1, none⟩ = some (.int .i64 pb) := (cellH hx1 1).trans rfl
            obtain ⟨c0, c1, c2⟩ := boxg HX1.out
            clear hx1
            by_cases hpa : pa < 0
            · have HF := Lib.hid (HNO.out (by unfold okP; rw [decl_out (by omega)]; simp))
              have hd1 : decide (pa < 0) = true := by simpa using hpa
              clear hpa
              go_quiet (fail)
              go_wp2_with fail
              go_ret
              exact ⟨by rw [HF.out]; rfl, below_drewN HBw1.out _⟩
            · have hd1 : decide (pa < 0) = false := by simpa using hpa
              by_cases hpb : (nv : Int) ≤ pb
              · have HF := Lib.hid (HNO.out (by unfold okP; rw [decl_out (x := pb) (by have := HLO.out; omega)]; simp))
                have hd2 : decide ((nv : Int) ≤ pb) = true := by simpa using hpb
                clear hpa hpb
                go_quiet (fail)
                go_wp2_with fail
                go_ret
                exact ⟨by rw [HF.out]; rfl, below_drewN HBw1.out _⟩
              · have hd2 : decide ((nv : Int) ≤ pb) = false := by simpa using hpb
                by_cases hab : pb ≤ pa
                · have HF := Lib.hid (HNO.out (by unfold okP; have : ¬ pa < pb := by omega
                                                  simp [this]))
                  have hd3 : decide (pb ≤ pa) = true := by simpa using hab
                  clear hpa hpb hab
                  go_quiet (fail)
                  go_wp2_with fail
                  go_ret
                  exact ⟨by rw [HF.out]; rfl, below_drewN HBw1.out _⟩
                · have hd3 : decide (pb ≤ pa) = false := by simpa using hab
                  have hlt3 : pa < pb := by omega
                  obtain ⟨ja, rfl⟩ : ∃ j : Nat, pa = (j : Int) := ⟨pa.toNat, by omega⟩
                  obtain ⟨jb, rfl⟩ : ∃ j : Nat, pb = (j : Int) := ⟨pb.toNat, by omega⟩
                  have hjan : ja < nv := by omega
                  have hjbn : jb < nv := by omega
                  obtain ⟨hxx, h0 | ⟨go, oo, rfl, hco, hgo, hato⟩⟩ := HIO.out
                  · omega
                  obtain ⟨ya, hya⟩ : ∃ y, O[ja]? = some y := ⟨_, List.getElem?_eq_getElem (by omega)⟩
                  obtain ⟨yb, hyb⟩ : ∃ y, O[jb]? = some y := ⟨_, List.getElem?_eq_getElem (by omega)⟩
                  clear hxx
                  have y3 : w1.cell? ⟨go, oo + ja * 5 + 3, none⟩ = some (.int .i64 ya.s) := (HBw1.out.cell (p := ⟨go, _, none⟩) hgo).trans (hato ja ya hya).c3
                  have y4 : w1.cell? ⟨go, oo + jb * 5 + 3, none⟩ = some (.int .i64 yb.s) := (HBw1.out.cell (p := ⟨go, _, none⟩) hgo).trans (hato jb yb hyb).c3
                  have y5 : w1.cell? ⟨go, oo + ja * 5 + 4, none⟩ = some (.bool ya.d) := (HBw1.out.cell (p := ⟨go, _, none⟩) hgo).trans (hato ja ya hya).c4
                  have y6 : w1.cell? ⟨go, oo + jb * 5 + 4, none⟩ = some (.bool yb.d) := (HBw1.out.cell (p := ⟨go, _, none⟩) hgo).trans (hato jb yb hyb).c4
                  have q1 : (0 : Int) ≤ (ja : Int) := by omega
                  have q2 : (ja : Int) < (nv : Int) := by omega
                  have q3 : (0 : Int) ≤ (jb : Int) := by omega
                  have q4 : (jb : Int) < (nv : Int) := by omega
                  have e1 : decide (nv ≤ jb) = false := by simp; omega
                  have e2 : decide (jb ≤ ja) = false := by simp; omega
                  have HOKP : Hid (okP O L m ((ja : Int), (jb : Int)) = (ya.d && yb.d && (ya.s == yb.s) && lessAt L ((ja : Int), (jb : Int)) m)) := Lib.hid (by unfold okP; rw [decl_at hya, decl_at hyb, spc_at hya, spc_at hyb]; simp [hlt3])
                  clear hya hyb hato hpa hpb hab hlt3
                  cases hda : ya.d with
                  | false =>
                    have HF := Lib.hid (HNO.out (by rw [HOKP.out, hda]; rfl))
                    rw [hda] at y5
                    clear hda
                    go_quiet (fail)
                    go_wp2_with fail
                    go_ret
                    exact ⟨by rw [HF.out]; rfl, below_drewN HBw1.out _⟩
                  | true =>
                    cases hdb : yb.d with
                    | false =>
                      have HF := Lib.hid (HNO.out (by rw [HOKP.out, hda, hdb]; rfl))
                      rw [hda] at y5
                      rw [hdb] at y6
                      clear hda hdb
                      go_quiet (fail)
                      go_wp2_with fail
                      go_ret
                      exact ⟨by rw [HF.out]; rfl, below_drewN HBw1.out _⟩
                    | true =>
                      rw [hda] at y5 HOKP
                      rw [hdb] at y6 HOKP
                      clear hda hdb
                      by_cases hss : ya.s = yb.s
                      · have hq : (ya.s != yb.s) = false := by simpa using hss
                        have HOK2 : Hid (okP O L m ((ja : Int), (jb : Int)) = lessAt L ((ja : Int), (jb : Int)) m) := Lib.hid (by rw [HOKP.out]; simp [hss])
                        clear hss
                        go_quiet (fail)
                        have c1' : (w1.drewN nq).cell? ⟨B, 1, none⟩ = some (.slice (some ⟨gl, ol, none⟩) nl cl) := c1
                        have t0' : (w1.drewN nq).cell? ⟨T, 0, none⟩ = some (.int .i64 (ja : Int)) := t0
                        have t1' : (w1.drewN nq).cell? ⟨T, 1, none⟩ = some (.int .i64 (jb : Int)) := t1
                        have HB2q := Lib.hid (below_drewN HB21.out nq)
                        have HBwq := Lib.hid (below_drewN HBw1.out nq)
                        clear t0 t1 c0 c1 c2 y3 y4 y5 y6 HX1
                        generalize w1.drewN nq = wq at *
                        go_wp2_with fail
                        by_cases hm0 : m = 0
                        · have hm1 : decide (0 < m) = false := by simp; omega
                          have HKY := Lib.hid (HKN.out (by rw [HOK2.out, hm0]; rfl))
                          clear hm0
                          go_quiet (fail)
                          go_wp2_with fail
                          go_roundw
                          case rel => exact ⟨m + 1, by omega, by go_num, HKY, Lib.hid (below_drewN HB2q.out _)⟩
                          case measure => simp [intOf]; omega
                        · have hm1 : decide (0 < m) = true := by simp; omega
                          obtain ⟨j, hj⟩ : ∃ j, m = j + 1 := ⟨m - 1, by omega⟩
                          obtain ⟨z, hz⟩ : ∃ z, L[j]? = some z := ⟨_, List.getElem?_eq_getElem (by have := HLL.out; omega)⟩
                          have HOK3 : Hid (okP O L m ((ja : Int), (jb : Int)) = plt z ((ja : Int), (jb : Int))) := Lib.hid (by rw [HOK2.out, hj]; exact lessAt_at hz)
                          obtain ⟨z0, z1⟩ := HATL.out j z hz
                          rw [← HBwq.out.cell (p := ⟨gl, _, none⟩) hgl] at z0 z1
                          have p1 : IntKind.i64.wrap ((m : Int) - 1) = (j : Int) := by rw [show (m : Int) - 1 = (j : Int) by omega]; exact IntWalk.i64_in _ (by omega)
                          have p2 : (0 : Int) ≤ (j : Int) := by omega
                          have p3 : (j : Int) < (nl : Int) := by omega
                          obtain ⟨za, zb⟩ := z
                          simp only at z0 z1
                          clear hj hz hm0
                          by_cases hg : (ja : Int) < za
                          · have g1 : decide ((ja : Int) < za) = true := by simpa using hg
                            have HF := Lib.hid (HNO.out (by rw [HOK3.out]; unfold plt; simp; omega))
                            clear hg
                            go_quiet (fail)
                            go_wp2_with fail
                            go_ret
                            exact ⟨by rw [HF.out]; rfl, below_drewN HBwq.out _⟩
                          · have g1 : decide ((ja : Int) < za) = false := by simpa using hg
                            by_cases he : za = (ja : Int)
                            · have g2 : (za == (ja : Int)) = true := by simpa using he
                              by_cases hz2 : (jb : Int) ≤ zb
                              · have g3 : decide ((jb : Int) ≤ zb) = true := by simpa using hz2
                                have HF := Lib.hid (HNO.out (by rw [HOK3.out]; unfold plt; simp; omega))
                                clear hg he hz2
                                go_quiet (fail)
                                go_wp2_with fail
                                go_ret
                                exact ⟨by rw [HF.out]; rfl, below_drewN HBwq.out _⟩
                              · have g3 : decide ((jb : Int) ≤ zb) = false := by simpa using hz2
                                have HKY := Lib.hid (HKN.out (by rw [HOK3.out]; unfold plt; simp; omega))
                                clear hg he hz2
                                go_quiet (fail)
                                go_wp2_with fail
                                go_roundw
                                case rel => exact ⟨m + 1, by omega, by go_num, HKY, Lib.hid (below_drewN HB2q.out _)⟩
                                case measure => simp [intOf]; omega
                            · have g2 : (za == (ja : Int)) = false := by simpa using he
                              have HKY := Lib.hid (HKN.out (by rw [HOK3.out]; unfold plt; simp; omega))
                              clear hg he
                              go_quiet (fail)
                              go_wp2_with fail
                              go_roundw
                              case rel => exact ⟨m + 1, by omega, by go_num, HKY, Lib.hid (below_drewN HB2q.out _)⟩
                              case measure => simp [intOf]; omega
                      · have hq : (ya.s != yb.s) = true := by simpa using hss
                        have HF := Lib.hid (HNO.out (by rw [HOKP.out]; simp [hss]))
                        clear hss
                        go_quiet (fail)
                        go_wp2_with fail
                        go_ret
                        exact ⟨by rw [HF.out]; rfl, below_drewN HBw1.out _⟩
          · have hmn : m = nl := by omega
            have HF : Hid (rightB E L V O = true) := Lib.hid (right_yes hLB.out HKA.out fun j hj => HK.out j (by have := HLL.out; omega))
            clear hmn
            go_wp2_with fail
            go_ret
            exact ⟨by rw [HF.out]; rfl, HBy.out⟩
  · have HF : Hid (rightB E L V O = false) := Lib.hid (right_no_len (by
      unfold lensB
      simp only [Bool.and_eq_false_iff, decide_eq_false_iff_not]
      omega))
    by_cases h1 : ne = no
    · have h2 : ((nv : Int) != (no : Int)) = true := by simp; omega
      have h3 : ((ne : Int) != (no : Int)) = false := by simp [h1]
      subst h1
      clear h hO hle hlv hll hlo hlen b1 e1
      go_enter Try.func10, Try.ntmps10
      go_wp2_with fail
      go_ret
      exact ⟨by rw [HF.out]; rfl, HB0.out⟩
    · have h3 : ((ne : Int) != (no : Int)) = true := by simp; omega
      clear h hO hle hlv hll hlo hlen b1 e1
      go_enter Try.func10, Try.ntmps10
      go_wp2_with fail
      go_ret
      exact ⟨by rw [HF.out]; rfl, HB0.out⟩
end Go.Proofs.Ytggoajpemffbiaa
