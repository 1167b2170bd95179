/-
  Whether a graph is right (Right), walked.
-/
import Derived.Test.YtggoajpemffbiaaRgp
import Derived.Test.YtggoajpemffbiaaLor
import Derived.Lib.QuietBelow
import Derived.BigQuiet
import Derived.Deep.CutRange
namespace Go.Proofs.Ytggoajpemffbiaa
open Go.RowKit
set_option maxRecDepth 20000
set_option linter.unusedVariables false
set_option linter.unusedSimpArgs false

theorem okI_at {O : List Oc} {E V : List Int} {i : Nat} {o : Oc} {e v : Int} (ho : O[i]? = some o) (he : E[i]? = some e) (hv : V[i]? = some v) : okI O E V i = okE O i o e v := by unfold okI; rw [ho, he, hv]
theorem okL_at {O : List Oc} {L : List P2} {i : Nat} {p : P2} (hp : L[i]? = some p) : okL O L i = okP O L i p := by unfold okL; rw [hp]
set_option maxHeartbeats 16000000 in
theorem right_any (g : Gr) (E : List Int) (L : List P2) (V : List Int) (qo : Option Addr) (no co : Nat) (O : List Oc) (w : World) (h : GrIn w g E L V) (hO : OS w qo no co O) (hn : g.ne ≤ 1000) (hno : no ≤ 1000) (hl : g.nl ≤ 1000) :
    Calls Try.prog 9 #[g.v, .slice qo no co] w fun e w' => e = .returned (.bool (rightB E L V O)) ∧ Below w.heap.size w w' := by
  have hle := h.e.1
  have hlv := h.v.1
  have hll := h.l.1
  have hlo := hO.1
  obtain ⟨qe, ne, ce, ql, nl, cl, qv, nv, cv⟩ := g
  simp only [Gr.v] at *
  have b1 : Below w.heap.size w (w.alloc (.cells #[.slice qe ne ce, .slice ql nl cl, .slice qv nv cv] 25)) := (Below.refl _ _).alloc (Nat.le_refl _) _
  have e1 := heap_new w (.cells #[.slice qe ne ce, .slice ql nl cl, .slice qv nv cv] 25)
  have z1 : (w.alloc (.cells #[.slice qe ne ce, .slice ql nl cl, .slice qv nv cv] 25)).heap.size = w.heap.size + 1 := by simp
  by_cases hlen : ne = no ∧ nv = no
  · obtain ⟨h1, h2⟩ := hlen
    subst h1
    subst h2
    have hLB : Hid (lensB E V O = true) := Lib.hid (by unfold lensB; simp; omega)
    have HIE := Lib.hid h.e
    have HIV := Lib.hid h.v
    have HIL := Lib.hid h.l
    have HIO := Lib.hid hO
    have HLE := Lib.hid hle
    have HLV := Lib.hid hlv
    have HLL := Lib.hid hll
    have HLO := Lib.hid hlo
    clear h hO hle hlv hll hlo hno
    have b2 : Below w.heap.size w ((w.alloc (.cells #[.slice qe nv ce, .slice ql nl cl, .slice qv nv cv] 25)).alloc (.cells #[.slice qo nv co] 26)) := b1.alloc b1.size _
    have e2 := heap_new (w.alloc (.cells #[.slice qe nv ce, .slice ql nl cl, .slice qv nv cv] 25)) (.cells #[.slice qo nv co] 26)
    rw [z1] at e2
    have e3 := heap_step e1 ((Below.refl _ _).alloc (Nat.le_refl _) (.cells #[.slice qo nv co] 26))
    obtain ⟨W2, hW2⟩ : ∃ W2, W2 = (w.alloc (.cells #[.slice qe nv ce, .slice ql nl cl, .slice qv nv cv] 25)).alloc (.cells #[.slice qo nv co] 26) := ⟨_, rfl⟩
    rw [← hW2] at b2 e2 e3
    have HB0 := Lib.hid b2
    have HXC := Lib.hid e2
    have HXB := Lib.hid e3
    clear b1 e1 z1 b2
    go_enter Try.func9, Try.ntmps9
    go_upto_region 3 with fail
    rw [← hW2]
    clear hW2
    obtain ⟨B, hB⟩ : ∃ B, B = w.heap.size := ⟨_, rfl⟩
    obtain ⟨C, hC⟩ : ∃ C, C = w.heap.size + 1 := ⟨_, rfl⟩
    rw [← hC] at e2 ⊢
    rw [← hB] at e3 ⊢
    have HXB : Hid (W2.heap[B]? = some (.cells #[.slice qe nv ce, .slice ql nl cl, .slice qv nv cv] 25 (0, 0))) := Lib.hid e3
    have HXC : Hid (W2.heap[C]? = some (.cells #[.slice qo nv co] 26 (0, 0))) := Lib.hid e2
    clear hB hC e2 e3
    have c0 : W2.cell? ⟨C, 0, none⟩ = some (.slice qo nv co) := (cellH HXC.out 0).trans rfl
    go_wp2_with fail
    clear c0
    go_loopw [29] (fun i wr => ∃ k : Nat, k ≤ nv ∧ i = .int .i64 k ∧ Hid (∀ j, j < k → okI O E V j = true) ∧ Hid (Below w.heap.size w wr) ∧ Hid (Below W2.heap.size W2 wr)) (fun i _ => nv - (intOf i).toNat)
    case atStart => exact ⟨0, by omega, rfl, Lib.hid (fun j hj => by omega), HB0, Lib.hid (Below.refl _ _)⟩
    case round =>
      obtain ⟨k, hk, rfl, HK, HBw, HB2⟩ := hrel
      by_cases hlt : k < nv
      · have hio := HIO.out.step (HBw.out)
        have hie := HIE.out.step (HBw.out)
        have hiv := HIV.out.step (HBw.out)
        obtain ⟨hxx, h0 | ⟨go, oo, rfl, hco, hgo, hato⟩⟩ := HIO.out
        · omega
        obtain ⟨hxy, h0 | ⟨ge, oe, rfl, hce, hge, hate⟩⟩ := HIE.out
        · omega
        obtain ⟨hxz, h0 | ⟨gv, ov, rfl, hcv, hgv, hatv⟩⟩ := HIV.out
        · omega
        clear hxx hxy hxz
        obtain ⟨o, ho⟩ : ∃ o, O[k]? = some o := ⟨_, List.getElem?_eq_getElem (by have := HLO.out; omega)⟩
        obtain ⟨e, he⟩ : ∃ e, E[k]? = some e := ⟨_, List.getElem?_eq_getElem (by have := HLE.out; omega)⟩
        obtain ⟨v, hv⟩ : ∃ v, V[k]? = some v := ⟨_, List.getElem?_eq_getElem (by have := HLV.out; omega)⟩
        obtain ⟨o0, o1, o2, o3, o4⟩ := hato k o ho
        rw [← HBw.out.cell (p := ⟨go, _, none⟩) hgo] at o0 o1 o2 o3 o4
        have ce0 := (HBw.out.cell (p := ⟨ge, oe + k, none⟩) hge).trans (hate k e he)
        have cv0 := (HBw.out.cell (p := ⟨gv, ov + k, none⟩) hgv).trans (hatv k v hv)
        have bz := HBw.out.size
        have hge2 : ge < wr.heap.size := by omega
        have hgv2 : gv < wr.heap.size := by omega
        have hgo2 : go < wr.heap.size := by omega
        have xb := heap_step HXB.out HB2.out
        have xc := heap_step HXC.out HB2.out
        have hB2 : B < wr.heap.size := heap_lt xb
        have hC2 : C < wr.heap.size := heap_lt xc
        have d0 : wr.cell? ⟨B, 0, none⟩ = some (.slice (some ⟨ge, oe, none⟩) nv ce) := (cellH xb 0).trans rfl
        have d2 : wr.cell? ⟨B, 2, none⟩ = some (.slice (some ⟨gv, ov, none⟩) nv cv) := (cellH xb 2).trans rfl
        have dc : wr.cell? ⟨C, 0, none⟩ = some (.slice (some ⟨go, oo, none⟩) nv co) := (cellH xc 0).trans rfl
        have r1 : (0 : Int) ≤ (k : Int) := by omega
        have r2 : (k : Int) < (nv : Int) := by omega
        have HOK := Lib.hid (okI_at ho he hv)
        have hb1 : Below wr.heap.size wr (wr.alloc (.cells #[.int .i64 o.f, .int .i64 o.a, .int .i64 o.e, .int .i64 o.s, .bool o.d] 44)) := (Below.refl _ _).alloc (Nat.le_refl _) _
        have HBw1 := Lib.hid (HBw.out.trans (hb1.mono bz))
        have HB21 := Lib.hid (HB2.out.trans (hb1.mono HB2.out.size))
        have HKN : Hid (okE O k o e v = true → ∀ j, j < k + 1 → okI O E V j = true) := Lib.hid fun h j hj => by
          by_cases hjk : j = k
          · subst hjk; rw [HOK.out]; exact h
          · exact HK.out j (by omega)
        have HNO : Hid (okE O k o e v = false → rightB E L V O = false) := Lib.hid fun h => right_no_e (i := k) (by have := HLO.out; omega) (by rw [HOK.out]; exact h)
        have hx1 := heap_new wr (.cells #[.int .i64 o.f, .int .i64 o.a, .int .i64 o.e, .int .i64 o.s, .bool o.d] 44)
        obtain ⟨T, hT⟩ : ∃ T, T = wr.heap.size := ⟨_, rfl⟩
        have hTB : B < T := by omega
        have hTC : C < T := by omega
        have HAT := Lib.hid hato
        clear hate hatv ho he hv hio hie hiv xb xc hato
        go_wp2_with fail
        rw [← hT] at hx1 ⊢
        have HX1 := Lib.hid hx1
        have ge1 := (hb1.cell (p := ⟨ge, oe + k, none⟩) hge2).trans ce0
        have gv1 := (hb1.cell (p := ⟨gv, ov + k, none⟩) hgv2).trans cv0
        have dd0 := (hb1.cell (p := ⟨B, 0, none⟩) hB2).trans d0
        have dd2 := (hb1.cell (p := ⟨B, 2, none⟩) hB2).trans d2
        have ddc := (hb1.cell (p := ⟨C, 0, none⟩) hC2).trans dc
        clear o0 o1 o2 o3 o4 ce0 cv0 d0 d2 dc hge2 hgv2 hgo2 hB2 hC2 bz hT hb1
        generalize wr.alloc (.cells #[.int .i64 o.f, .int .i64 o.a, .int .i64 o.e, .int .i64 o.s, .bool o.d] 44) = w1 at *
        have t3 : w1.cell? ⟨T, 3, none⟩ = some (.int .i64 o.s) := (cellH hx1 3).trans rfl
        have t4 : w1.cell? ⟨T, 4, none⟩ = some (.bool o.d) := (cellH hx1 4).trans rfl
        clear hx1
        go_quiet (fail)
        go_wp2_with fail
        have HXC1 := Lib.hid (heap_step HXC.out HB21.out)
        have HOS1 : Hid (OS w1 (some ⟨go, oo, none⟩) nv co O) := Lib.hid (HIO.out.step HBw1.out)
        have HQD : Hid (∀ W, Below w1.heap.size w1 W → Calls Try.prog 20 #[.int .i64 e, .pointer (some ⟨C, 0, none⟩)] W fun x w' => x = .returned (.bool (decl O e)) ∧ w' = W) := Lib.hid fun W hW => decl_any e C _ nv co O W ((cellH (heap_step HXC1.out hW) 0).trans rfl) (HOS1.out.step hW)
        cases hd : decl O e with
        | false =>
          have HF := Lib.hid (HNO.out (by unfold okE; simp [hd]))
          rw [hd] at HQD
          clear hd
          go_quiet (exact (HQD.out _ (below_drewN (Below.refl _ _) _)).mono fun _ _ h => ⟨h.1, _, h.2⟩)
          go_wp2_with fail
          go_ret
          exact ⟨by rw [HF.out]; rfl, by first | exact below_drewN HBw1.out _ | exact below_drewN (below_drewN HBw1.out _) _⟩
        | true =>
          obtain ⟨j, y, rfl, hyj, hdj⟩ := decl_in hd
          rw [hd] at HQD
          have hsy := spc_at hyj
          have hjn : j < nv := by have := (List.getElem?_eq_some_iff.1 hyj).1; have := HLO.out; omega
          have y3 : w1.cell? ⟨go, oo + j * 5 + 3, none⟩ = some (.int .i64 y.s) := by
            have := (HAT.out j y hyj).c3
            rw [← HBw1.out.cell (p := ⟨go, _, none⟩) hgo] at this
            exact this
          have q1 : (0 : Int) ≤ (j : Int) := by omega
          have q2 : (j : Int) < (nv : Int) := by omega
          clear hyj hdj
          by_cases hsp : y.s = o.s
          · have hq : (y.s != o.s) = false := by simpa using hsp
            by_cases hv1 : v < -1
            · have HF := Lib.hid (HNO.out (by unfold okE; simp [hv1]))
              clear hd hsy hsp
              go_quiet (exact (HQD.out _ (below_drewN (Below.refl _ _) _)).mono fun _ _ h => ⟨h.1, _, h.2⟩)
              go_wp2_with fail
              go_ret
              exact ⟨by rw [HF.out]; rfl, by first | exact below_drewN HBw1.out _ | exact below_drewN (below_drewN HBw1.out _) _⟩
            · have HEQ : Hid (okE O k o (j : Int) v = (!o.d || (decide ((j : Int) = (k : Int)) && decide (v = -1)))) := Lib.hid (by unfold okE; rw [hd, hsy, hsp]; simp [hv1])
              clear hd hsy hsp
              go_quiet (exact (HQD.out _ (below_drewN (Below.refl _ _) _)).mono fun _ _ h => ⟨h.1, _, h.2⟩)
              cases hod : o.d with
              | false =>
                rw [hod] at t4 HEQ
                have HKY := Lib.hid (HKN.out (by rw [HEQ.out]; rfl))
                clear hod
                go_wp2_with fail
                go_roundw
                case rel => exact ⟨k + 1, by omega, by go_num, HKY, by first | exact Lib.hid (below_drewN HBw1.out _) | exact Lib.hid (below_drewN (below_drewN HBw1.out _) _), by first | exact Lib.hid (below_drewN HB21.out _) | exact Lib.hid (below_drewN (below_drewN HB21.out _) _)⟩
                case measure => simp [intOf]; omega
              | true =>
                rw [hod] at t4 HEQ
                clear hod
                by_cases hjk : j = k
                · have hjb : ((j : Int) != (k : Int)) = false := by simp [hjk]
                  by_cases hvm : v = -1
                  · have hvb : (v != -1) = false := by simpa using hvm
                    have HKY := Lib.hid (HKN.out (by rw [HEQ.out]; simp [hjk, hvm]))
                    clear hjk hvm
                    go_wp2_with fail
                    go_roundw
                    case rel => exact ⟨k + 1, by omega, by go_num, HKY, by first | exact Lib.hid (below_drewN HBw1.out _) | exact Lib.hid (below_drewN (below_drewN HBw1.out _) _), by first | exact Lib.hid (below_drewN HB21.out _) | exact Lib.hid (below_drewN (below_drewN HB21.out _) _)⟩
                    case measure => simp [intOf]; omega
                  · have hvb : (v != -1) = true := by simpa using hvm
                    have HF := Lib.hid (HNO.out (by rw [HEQ.out]; simp [hvm]))
                    clear hjk hvm
                    go_wp2_with fail
                    go_ret
                    exact ⟨by rw [HF.out]; rfl, by first | exact below_drewN HBw1.out _ | exact below_drewN (below_drewN HBw1.out _) _⟩
                · have hjb : ((j : Int) != (k : Int)) = true := by simp; omega
                  have HF := Lib.hid (HNO.out (by rw [HEQ.out]; have : ¬ (j : Int) = (k : Int) := by omega
                                                  simp [this]))
                  clear hjk
                  go_wp2_with fail
                  go_ret
                  exact ⟨by rw [HF.out]; rfl, by first | exact below_drewN HBw1.out _ | exact below_drewN (below_drewN HBw1.out _) _⟩
          · have hq : (y.s != o.s) = true := by simpa using hsp
            have HF := Lib.hid (HNO.out (by unfold okE; rw [hsy]; simp [hsp]))
            clear hd hsy hsp
            go_quiet (exact (HQD.out _ (below_drewN (Below.refl _ _) _)).mono fun _ _ h => ⟨h.1, _, h.2⟩)
            go_wp2_with fail
            go_ret
            exact ⟨by rw [HF.out]; rfl, by first | exact below_drewN HBw1.out _ | exact below_drewN (below_drewN HBw1.out _) _⟩
      · have hkn : k = nv := by omega
        have HKA : Hid (∀ j, j < O.length → okI O E V j = true) := Lib.hid fun j hj => HK.out j (by have := HLO.out; omega)
        clear hkn HK
        have xb := heap_step HXB.out HB2.out
        have d1 : wr.cell? ⟨B, 1, none⟩ = some (.slice ql nl cl) := (cellH xb 1).trans rfl
        have hW0 : Hid (Below wr.heap.size wr wr) := Lib.hid (Below.refl _ _)
        clear xb
        go_wp2_with fail
        clear d1
        obtain ⟨wo, hwo⟩ : ∃ wo, wo = wr := ⟨_, rfl⟩
        subst hwo
        go_loopw [79] (fun i wr => ∃ m : Nat, m ≤ nl ∧ i = .int .i64 m ∧ Hid (∀ j, j < m → okL O L j = true) ∧ Hid (Below w.heap.size w wr) ∧ Hid (Below W2.heap.size W2 wr)) (fun i _ => nl - (intOf i).toNat)
        case atStart => exact ⟨0, by omega, rfl, Lib.hid (fun j hj => by omega), HBw, HB2⟩
        case round =>
          obtain ⟨m, hm, rfl, HK, HBy, HBz⟩ := hrel
          clear HBw HB2 hW0
          by_cases hltm : m < nl
          · obtain ⟨hxx, h0 | ⟨gl, ol, rfl, hcl, hgl, hatl⟩⟩ := HIL.out
            · omega
            clear hxx
            obtain ⟨p, hp⟩ : ∃ p, L[m]? = some p := ⟨_, List.getElem?_eq_getElem (by have := HLL.out; omega)⟩
            obtain ⟨l0, l1⟩ := hatl m p hp
            rw [← HBy.out.cell (p := ⟨gl, _, none⟩) hgl] at l0 l1
            have bz := HBy.out.size
            have hgl2 : gl < wr.heap.size := by omega
            have xb := heap_step HXB.out HBz.out
            have xc := heap_step HXC.out HBz.out
            have r1 : (0 : Int) ≤ (m : Int) := by omega
            have r2 : (m : Int) < (nl : Int) := by omega
            have HOK := Lib.hid (okL_at (O := O) hp)
            have hb1 : Below wr.heap.size wr (wr.alloc (.cells #[.int .i64 p.1, .int .i64 p.2] 40)) := (Below.refl _ _).alloc (Nat.le_refl _) _
            have HBw1 := Lib.hid (HBy.out.trans (hb1.mono bz))
            have HB21 := Lib.hid (HBz.out.trans (hb1.mono HBz.out.size))
            have HKN : Hid (okP O L m p = true → ∀ j, j < m + 1 → okL O L j = true) := Lib.hid fun h j hj => by
              by_cases hjk : j = m
              · subst hjk; rw [HOK.out]; exact h
              · exact HK.out j (by omega)
            have HNO : Hid (okP O L m p = false → rightB E L V O = false) := Lib.hid fun h => right_no_l (i := m) (by have := HLL.out; omega) (by rw [HOK.out]; exact h)
            have hx1 := heap_new wr (.cells #[.int .i64 p.1, .int .i64 p.2] 40)
            have HATL := Lib.hid hatl
            obtain ⟨T, hT⟩ : ∃ T, T = wr.heap.size := ⟨_, rfl⟩
            have HPL := Lib.hid hp
            clear hp hatl
            go_wp2_with fail
            rw [← hT] at hx1 ⊢
            clear l0 l1 hgl2 bz hT hb1 xb xc
            have HX1 := Lib.hid hx1
            obtain ⟨pa, pb⟩ := p
            simp only at hx1 HOK HX1 HKN HNO HPL HBw1 HB21 ⊢
            generalize wr.alloc (.cells #[.int .i64 pa, .int .i64 pb] 40) = w1 at *
            have t0 : w1.cell? ⟨T, 0, none⟩ = some (.int .i64 pa) := (cellH hx1 0).trans rfl
            have t1 : w1.cell? ⟨T, 1, none⟩ = some (.int .i64 pb) := (cellH hx1 1).trans rfl
            have hTl := heap_lt hx1
            have HXC1 := Lib.hid (heap_step HXC.out HB21.out)
            have HXB1 := Lib.hid (heap_step HXB.out HB21.out)
            have HOS1 : Hid (OS w1 qo nv co O) := Lib.hid (HIO.out.step HBw1.out)
            have cc0 : w1.cell? ⟨C, 0, none⟩ = some (.slice qo nv co) := (cellH HXC1.out 0).trans rfl
            have HQA : Hid (∀ W, Below w1.heap.size w1 W → Calls Try.prog 20 #[.int .i64 pa, .pointer (some ⟨C, 0, none⟩)] W fun x w' => x = .returned (.bool (decl O pa)) ∧ w' = W) := Lib.hid fun W hW => decl_any pa C _ nv co O W ((cellH (heap_step HXC1.out hW) 0).trans rfl) (HOS1.out.step hW)
            have HQB : Hid (∀ W, Below w1.heap.size w1 W → Calls Try.prog 20 #[.int .i64 pb, .pointer (some ⟨C, 0, none⟩)] W fun x w' => x = .returned (.bool (decl O pb)) ∧ w' = W) := Lib.hid fun W hW => decl_any pb C _ nv co O W ((cellH (heap_step HXC1.out hW) 0).trans rfl) (HOS1.out.step hW)
            clear hx1
            cases hda : decl O pa with
            | false =>
              have HF := Lib.hid (HNO.out (by unfold okP; simp [hda]))
              rw [hda] at HQA
              clear hda
              go_quiet (first | exact (HQA.out _ (below_drewN (Below.refl _ _) _)).mono fun _ _ h => ⟨h.1, _, h.2⟩)
              go_wp2_with fail
              go_ret
              exact ⟨by rw [HF.out]; rfl, below_drewN HBw1.out _⟩
            | true =>
              cases hdb : decl O pb with
              | false =>
                have HF := Lib.hid (HNO.out (by unfold okP; simp [hdb]))
                rw [hda] at HQA
                rw [hdb] at HQB
                clear hda hdb
                go_quiet (first | (with_reducible exact (HQA.out _ (below_drewN (Below.refl _ _) _)).mono fun _ _ h => ⟨h.1, _, h.2⟩) | (with_reducible exact (HQB.out _ (below_drewN (Below.refl _ _) _)).mono fun _ _ h => ⟨h.1, _, h.2⟩))
                go_wp2_with fail
                go_ret
                exact ⟨by rw [HF.out]; rfl, below_drewN HBw1.out _⟩
              | true =>
                obtain ⟨ja, ya, rfl, hya, _⟩ := decl_in hda
                obtain ⟨jb, yb, rfl, hyb, _⟩ := decl_in hdb
                have hsa := spc_at hya
                have hsb := spc_at hyb
                obtain ⟨hxx, h0 | ⟨go, oo, rfl, hco, hgo, hato⟩⟩ := HIO.out
                · have := (List.getElem?_eq_some_iff.1 hya).1
                  omega
                have hjan : ja < nv := by have := (List.getElem?_eq_some_iff.1 hya).1; omega
                have hjbn : jb < nv := by have := (List.getElem?_eq_some_iff.1 hyb).1; omega
                clear hxx
                have y3 : w1.cell? ⟨go, oo + ja * 5 + 3, none⟩ = some (.int .i64 ya.s) := (HBw1.out.cell (p := ⟨go, _, none⟩) hgo).trans (hato ja ya hya).c3
                have y4 : w1.cell? ⟨go, oo + jb * 5 + 3, none⟩ = some (.int .i64 yb.s) := (HBw1.out.cell (p := ⟨go, _, none⟩) hgo).trans (hato jb yb hyb).c3
                have q1 : (0 : Int) ≤ (ja : Int) := by omega
                have q2 : (ja : Int) < (nv : Int) := by omega
                have q3 : (0 : Int) ≤ (jb : Int) := by omega
                have q4 : (jb : Int) < (nv : Int) := by omega
                have HOKP : Hid (okP O L m ((ja : Int), (jb : Int)) = (decide ((ja : Int) < (jb : Int)) && (ya.s == yb.s) && lessAt L ((ja : Int), (jb : Int)) m)) := Lib.hid (by unfold okP; rw [hda, hdb, hsa, hsb]; simp)
                rw [hda] at HQA
                rw [hdb] at HQB
                clear hda hdb hya hyb hsa hsb hato
                by_cases hab : ja < jb
                · have hab1 : (ja : Int) < (jb : Int) := by omega
                  have hab2 : ¬ (jb : Int) ≤ (ja : Int) := by omega
                  by_cases hss : ya.s = yb.s
                  · have hq : (ya.s != yb.s) = false := by simpa using hss
                    have HOK2 : Hid (okP O L m ((ja : Int), (jb : Int)) = lessAt L ((ja : Int), (jb : Int)) m) := Lib.hid (by rw [HOKP.out]; simp [hab1, hss])
                    clear hss
                    go_quiet (first | (with_reducible exact (HQA.out _ (below_drewN (Below.refl _ _) _)).mono fun _ _ h => ⟨h.1, _, h.2⟩) | (with_reducible exact (HQB.out _ (below_drewN (Below.refl _ _) _)).mono fun _ _ h => ⟨h.1, _, h.2⟩))
                    go_wp2_with fail
                    by_cases hm0 : m = 0
                    · have hm1 : decide (0 < m) = false := by simp; omega
                      have HKY := Lib.hid (HKN.out (by rw [HOK2.out, hm0]; rfl))
                      clear hm0
                      go_quiet (fail)
                      go_wp2_with fail
                      go_roundw
                      case rel => exact ⟨m + 1, by omega, by go_num, HKY, by first | exact Lib.hid (below_drewN HBw1.out _) | exact Lib.hid (below_drewN (below_drewN HBw1.out _) _), by first | exact Lib.hid (below_drewN HB21.out _) | exact Lib.hid (below_drewN (below_drewN HB21.out _) _)⟩
                      case measure => simp [intOf]; omega
                    · have hm1 : decide (0 < m) = true := by simp; omega
                      obtain ⟨j, hj⟩ : ∃ j, m = j + 1 := ⟨m - 1, by omega⟩
                      obtain ⟨z, hz⟩ : ∃ z, L[j]? = some z := ⟨_, List.getElem?_eq_getElem (by have := HLL.out; omega)⟩
                      have HOK3 : Hid (okP O L m ((ja : Int), (jb : Int)) = plt z ((ja : Int), (jb : Int))) := Lib.hid (by rw [HOK2.out, hj]; exact lessAt_at hz)
                      obtain ⟨z0, z1⟩ := HATL.out j z hz
                      rw [← HBw1.out.cell (p := ⟨gl, _, none⟩) hgl] at z0 z1
                      have p1 : IntKind.i64.wrap ((m : Int) - 1) = (j : Int) := by rw [show (m : Int) - 1 = (j : Int) by omega]; exact IntWalk.i64_in _ (by omega)
                      have p2 : (0 : Int) ≤ (j : Int) := by omega
                      have p3 : (j : Int) < (nl : Int) := by omega
                      have xb1 : w1.cell? ⟨B, 1, none⟩ = some (.slice (some ⟨gl, ol, none⟩) nl cl) := (cellH HXB1.out 1).trans rfl
                      clear hj hz hm0
                      obtain ⟨w2, hw2⟩ : ∃ w2, w2 = w1.drewN nq := ⟨_, rfl⟩
                      rw [← hw2]
                      have HB2a : Hid (Below w.heap.size w w2) := Lib.hid (by rw [hw2]; exact below_drewN HBw1.out _)
                      have HB2b : Hid (Below W2.heap.size W2 w2) := Lib.hid (by rw [hw2]; exact below_drewN HB21.out _)
                      have z0' : w2.cell? ⟨gl, ol + j * 2, none⟩ = some (.int .i64 z.1) := by rw [hw2]; exact z0
                      have z1' : w2.cell? ⟨gl, ol + j * 2 + 1, none⟩ = some (.int .i64 z.2) := by rw [hw2]; exact z1
                      have t0' : w2.cell? ⟨T, 0, none⟩ = some (.int .i64 (ja : Int)) := by rw [hw2]; exact t0
                      have t1' : w2.cell? ⟨T, 1, none⟩ = some (.int .i64 (jb : Int)) := by rw [hw2]; exact t1
                      have xb' : w2.cell? ⟨B, 1, none⟩ = some (.slice (some ⟨gl, ol, none⟩) nl cl) := by rw [hw2]; exact xb1
                      clear hw2
                      have qz0 := fun dn os => cell_regrown z0' dn os
                      have qz1 := fun dn os => cell_regrown z1' dn os
                      have qt0 := fun dn os => cell_regrown t0' dn os
                      have qt1 := fun dn os => cell_regrown t1' dn os
                      have qxb := fun dn os => cell_regrown xb' dn os
                      have hL : ∀ dn os, Calls Try.prog 21 #[.agg #[.int .i64 z.1, .int .i64 z.2], .agg #[.int .i64 (ja : Int), .int .i64 (jb : Int)]] (Sort.grow (redrawn w2 dn) os) fun e w' => e = .returned (.bool (plt z ((ja : Int), (jb : Int)))) ∧ ∃ p : Regrown, w' = Sort.grow (redrawn w2 p.d) p.os := fun dn os => Calls.regrown_of ((less_any z ((ja : Int), (jb : Int)) _).mono (by
                        rintro e w' ⟨rfl, q, os, rfl⟩
                        exact ⟨rfl, grow_below (Below.refl _ _) (Nat.le_refl _) q os⟩))
                      clear z0 z1 t0 t1 xb1 z0' z1' t0' t1' xb'
                      generalize plt z ((ja : Int), (jb : Int)) = lb at *
                      refine wp_region_quiet_below (by kernel_rfl) (by kernel_rfl) ?_
                      repeat (go_big_quiet_step (with_reducible exact hL _ _))
                      refine wpQuiet_nil ?_
                      intro w6 hw6
                      have hb6 : Below w2.heap.size w2 w6 := by obtain ⟨p, rfl⟩ := hw6; exact below_regrown _ _ _
                      have HB6a := Lib.hid (HB2a.out.trans (hb6.mono HB2a.out.size))
                      have HB6b := Lib.hid (HB2b.out.trans (hb6.mono HB2b.out.size))
                      clear hw6 hb6 qz0 qz1 qt0 qt1 qxb hL
                      cases lb with
                      | true =>
                        have HKY := Lib.hid (HKN.out HOK3.out)
                        go_wp2_with fail
                        go_roundw
                        case rel => exact ⟨m + 1, by omega, by go_num, HKY, HB6a, HB6b⟩
                        case measure => simp [intOf]; omega
                      | false =>
                        have HF := Lib.hid (HNO.out HOK3.out)
                        go_wp2_with fail
                        go_ret
                        exact ⟨by rw [HF.out]; rfl, HB6a.out⟩
                  · have hq : (ya.s != yb.s) = true := by simpa using hss
                    have HF := Lib.hid (HNO.out (by rw [HOKP.out]; simp [hss]))
                    clear hss
                    go_quiet (first | (with_reducible exact (HQA.out _ (below_drewN (Below.refl _ _) _)).mono fun _ _ h => ⟨h.1, _, h.2⟩) | (with_reducible exact (HQB.out _ (below_drewN (Below.refl _ _) _)).mono fun _ _ h => ⟨h.1, _, h.2⟩))
                    go_wp2_with fail
                    go_ret
                    exact ⟨by rw [HF.out]; rfl, below_drewN HBw1.out _⟩
                · have hab1 : ¬ (ja : Int) < (jb : Int) := by omega
                  have hab2 : (jb : Int) ≤ (ja : Int) := by omega
                  have HF := Lib.hid (HNO.out (by rw [HOKP.out]; simp [hab1]))
                  clear hab
                  go_quiet (first | (with_reducible exact (HQA.out _ (below_drewN (Below.refl _ _) _)).mono fun _ _ h => ⟨h.1, _, h.2⟩) | (with_reducible exact (HQB.out _ (below_drewN (Below.refl _ _) _)).mono fun _ _ h => ⟨h.1, _, h.2⟩))
                  go_wp2_with fail
                  go_ret
                  exact ⟨by rw [HF.out]; rfl, below_drewN HBw1.out _⟩
          · have hmn : m = nl := by omega
            have HF : Hid (rightB E L V O = true) := Lib.hid (right_yes hLB.out HKA.out fun j hj => HK.out j (by have := HLL.out; omega))
            clear hmn
            go_wp2_with fail
            go_ret
            exact ⟨by rw [HF.out]; rfl, HBy.out⟩
  · have HF : Hid (rightB E L V O = false) := Lib.hid (right_no_len (by
      unfold lensB
      simp only [Bool.and_eq_false_iff, decide_eq_false_iff_not]
      omega))
    have HB0 : Hid (Below w.heap.size w ((w.alloc (.cells #[.slice qe ne ce, .slice ql nl cl, .slice qv nv cv] 25)).alloc (.cells #[.slice qo no co] 26))) := Lib.hid (b1.alloc b1.size _)
    by_cases h1 : ne = no
    · have h2 : ((nv : Int) != (no : Int)) = true := by simp; omega
      have h3 : ((ne : Int) != (no : Int)) = false := by simp [h1]
      subst h1
      clear h hO hle hlv hll hlo hlen b1 e1 z1
      go_enter Try.func9, Try.ntmps9
      go_wp2_with fail
      go_ret
      exact ⟨by rw [HF.out]; rfl, HB0.out⟩
    · have h3 : ((ne : Int) != (no : Int)) = true := by simp; omega
      clear h hO hle hlv hll hlo hlen b1 e1 z1
      go_enter Try.func9, Try.ntmps9
      go_wp2_with fail
      go_ret
      exact ⟨by rw [HF.out]; rfl, HB0.out⟩
end Go.Proofs.Ytggoajpemffbiaa
