/-
  The reader's call.
-/
import Derived.Test.YtkjgkchdkeggoaaGreatDoorProd
namespace Go.Proofs.YtkjgkchdkeggoaaGreatDoor
open Go.RowKit
set_option maxRecDepth 20000
set_option linter.unusedVariables false
set_option linter.unusedSimpArgs false

set_option maxHeartbeats 8000000 in
theorem rcall_any (S : Src) (F : Nat) (rec : Nt → Nat → Nat → Out Pb) (d : Nat) (hF : F ≤ 1000000000)
    (hA : ∀ k w, Rd w S k d → atomO S F rec d k ≠ .dry → Calls Tryz.prog 98 #[.pointer (some ⟨S.g, 0, none⟩)] w fun e w' => Ends S d w (atomO S F rec d k) (RB w) e w')
    (n : Nat) (w : World) (h : Rd w S n d) (hdry : callO S F rec d n ≠ .dry) :
    Calls Tryz.prog 77 #[.pointer (some ⟨S.g, 0, none⟩)] w fun e w' => Ends S d w (callO S F rec d n) (RB w) e w' := by
  obtain ⟨i0, hi0, hy0, hy1, hy2⟩ := info_parts info26b
  have hgl := h.lt
  have hgwl := h.row
  have hb1 : Below w.heap.size w (w.alloc boxZ) := (Below.refl w.heap.size w).alloc (Nat.le_refl _) _
  have hr1 := h.step hb1
  have q2 := hr1.c2
  have hgz : (w.alloc boxZ).heap.size = w.heap.size + 1 := by simp
  unfold callO at hdry ⊢
  have HX0 := Lib.hid (hA n _ hr1 (bind_dry hdry))
  have HRD := Lib.hid hA
  obtain ⟨tot, htot⟩ : ∃ tot, tot = (atomO S F rec d n).bind fun b n1 => (callL S F rec d F [b] n1).bind fun l n2 => Out.ok (oneOr l 36 n n2 []) n2 := ⟨_, rfl⟩
  have HDRY : Hid (tot ≠ .dry) := Lib.hid (by rw [htot]; exact hdry)
  rw [← htot]
  have HTOT := Lib.hid htot
  clear htot h hdry hA hr1 hb1
  go_enter Tryz.func77, Tryz.ntmps77
  go_wp2_with fail
  refine HX0.out.mono ?_
  rintro e w1 (⟨b1, n1, v, hpo, rfl, ⟨y, rfl, hyl, hyo, hyp⟩, hr, hg⟩ | ⟨ch, ho, rfl, hg⟩)
  · have HL : Hid (tot = (callL S F rec d F ([y].map Br.pb) n1).bind fun l n2 => Out.ok (oneOr l 36 n n2 []) n2) := Lib.hid (by rw [HTOT.out, hpo, List.map_cons, List.map_nil, hyp]; rfl)
    have hB1 : Below w1.heap.size w1 (w1.alloc (.cells #[.int .i64 y.h.k, .int .i64 y.h.m, .int .i64 y.h.f, .int .i64 y.h.t, .slice y.h.np y.h.nn y.h.nc, .slice y.h.kp y.h.kn y.h.kc] 26)) := (Below.refl _ _).alloc (Nat.le_refl _) _
    have hs1 : w.heap.size + 1 ≤ w1.heap.size := by have := hg.size; omega
    have HR1 := Lib.hid (hr.step hB1)
    have HG1 := Lib.hid (grown_trans hg (grown_below hB1 (some S.g)))
    have HO1 : Hid ((w1.alloc (.cells #[.int .i64 y.h.k, .int .i64 y.h.m, .int .i64 y.h.f, .int .i64 y.h.t, .slice y.h.np y.h.nn y.h.nc, .slice y.h.kp y.h.kn y.h.kc] 26)).ownsRow (w.heap.size + 1) 26 6 (.slice (some ⟨w1.heap.size, 0, none⟩) 1 1) 1 (cellsK [y])) := Lib.hid (own_lit (heap_alloc_new w1 _) hs1 rfl (by unfold maxLen; omega))
    have HK1 : Hid (Kids (w.heap.size + 1) (.slice (some ⟨w1.heap.size, 0, none⟩) 1 1) (w1.alloc (.cells #[.int .i64 y.h.k, .int .i64 y.h.m, .int .i64 y.h.f, .int .i64 y.h.t, .slice y.h.np y.h.nn y.h.nc, .slice y.h.kp y.h.kn y.h.kc] 26)) [y]) := Lib.hid (by rw [← hgz]; exact kids_one (Nat.le_refl _) hyl hyo 1 1)
    clear hpo hyl hyo hyp hr hg hB1 hs1
    go_wp2_with fail
    go_loopg [4] F (fun gk v7 wr => ∃ (ys : List Br) (i : Nat) (p7 : Option Addr) (c7 : Nat), v7 = .slice p7 ys.length c7 ∧ ys.length + gk = F + 1 ∧ Hid (tot = (callL S F rec d gk (ys.map Br.pb) i).bind fun l n2 => Out.ok (oneOr l 36 n n2 []) n2) ∧ Hid (wr.ownsRow (w.heap.size + 1) 26 6 (.slice p7 ys.length c7) ys.length (cellsK ys)) ∧ Hid (Kids (w.heap.size + 1) (.slice p7 ys.length c7) wr ys) ∧ Hid (Rd wr S i d) ∧ (w.alloc boxZ).grownBy wr (some S.g))
    case atStart => exact ⟨[y], n1, _, _, rfl, by simp; omega, HL, HO1, HK1, HR1, HG1.out⟩
    case round =>
      obtain ⟨ys, i, p7, c7, rfl, hal, HL2, HO, HK, HRr, hgr⟩ := hrel
      have HGR := Lib.hid hgr
      have hzr : w.heap.size + 1 ≤ wr.heap.size := by have := hgr.size; omega
      clear hgr
      cases gk with
      | zero => exact absurd HL2.out (by intro e; exact HDRY.out e)
      | succ gk =>
      have hLs := HL2.out
      simp only [callL] at hLs
      have HLS := Lib.hid hLs
      have hbA : Below wr.heap.size wr (wr.alloc (.cells #[.string ⟨#[108, 101, 116]⟩] 9)) := (Below.refl _ _).alloc (Nat.le_refl _) _
      have hat : TxtCells (wr.alloc (.cells #[.string ⟨#[108, 101, 116]⟩] 9)) wr.heap.size [⟨#[108, 101, 116]⟩] := fun i hi => by
        obtain rfl : i = 0 := by simpa using hi
        exact Lib.cell_of_heap (heap_alloc_new wr (.cells #[.string ⟨#[108, 101, 116]⟩] 9)) 0
      have HP := Lib.hid (rbegins_any S i d [⟨#[108, 101, 116]⟩] wr.heap.size 1 _ (HRr.out.step hbA) hat (by simp) (by simp) (by simp))
      have HBA := Lib.hid hbA
      simp only [List.length_cons, List.length_nil, Nat.zero_add, List.map_cons, List.map_nil] at HP
      clear hat hbA
      clear hLs HL2
      cases hm : S.begins [[108, 101, 116]] i <;> rw [hm] at HP
      · have HEQ : Hid (tot = .ok (oneOr (ys.map Br.pb) 36 n i []) i) := Lib.hid (by rw [HLS.out, hm]; rfl)
        clear hm HLS
        go_wp2_with fail
        refine HP.out.mono ?_
        rintro e w2 ⟨rfl, hb2⟩
        have hb2 := HBA.out.trans (hb2.mono HBA.out.size)
        have HO5 := Lib.hid (ownsRow_below HO.out hb2)
        have HK5 := Lib.hid (HK.out.step hb2)
        have HR5 := Lib.hid (HRr.out.step hb2)
        have HG5 := Lib.hid (grown_trans HGR.out (grown_below hb2 _))
        clear hb2
        by_cases h1 : ys.length = 1
        · obtain ⟨y, rfl⟩ := List.length_eq_one_iff.1 h1
          obtain ⟨yh, yks⟩ := y
          obtain ⟨yk, ym, yf, yt, ynp, ynn, ync, yns, ykp, ykn, ykc⟩ := yh
          obtain ⟨gk, ck, hvk, _, hgk, _, _⟩ := own_pos HO5.out (by simp)
          injection hvk with hk1 hk2 hk3
          subst hk1 hk3
          have cell := fun j u hu => own_cell HO5.out j u hu
          have e0 := cell 0 _ rfl
          have e1 := cell 1 _ rfl
          have e2 := cell 2 _ rfl
          have e3 := cell 3 _ rfl
          have e4 := cell 4 _ rfl
          have e5 := cell 5 _ rfl
          simp only [Br.h] at e0 e1 e2 e3 e4 e5
          obtain ⟨hyl, hyo⟩ := HK5.out _ (List.mem_singleton.2 rfl)
          have FIN := Lib.hid (fin_box (o := tot) _ yk ym yf yt ynp ynn ync yns ykp ykn ykc yks HR5.out HG5.out hgl hgwl (by rw [HEQ.out]; rfl) hyl (hyo.mono (fun q hq => hq.1) _) rfl)
          clear cell hyl hyo h1
          have c0 := FIN.out.c0
          have c1 := FIN.out.c1
          have c2 := FIN.out.c2
          have c3 := FIN.out.c3
          have c4 := FIN.out.c4
          have c5 := FIN.out.c5
          have f0 := FIN.out.fz 0
          have f1 := FIN.out.fz 1
          have f2 := FIN.out.fz 2
          have f3 := FIN.out.fz 3
          have f4 := FIN.out.fz 4
          have f5 := FIN.out.fz 5
          go_wp2_with fail
          obtain ⟨_, _, _, _, _, _, _, d0, d1, d2, d3, d4, d5, hfin⟩ := FIN.out
          refine bodyPost_ret (by simp [results, Tryz.results77, go_sem, d0, d1, d2, d3, d4, d5, Result.andThen]; try rfl) rfl ?_
          exact hfin
        · have hln : ∀ b, ys.map Br.pb ≠ [b] := fun b e => h1 (by have := congrArg List.length e; simpa using this)
          have HTOT2 : Hid (tot = .ok (node 36 n i [] (ys.map Br.pb)) i) := Lib.hid (by rw [HEQ.out, oneOr_ne hln])
          have hgk : ((ys.length : Int) == 1) = false := by rw [beq_eq_false_iff_ne]; omega
          have h1i : ¬ ((ys.length : Nat) : Int) = 1 := by omega
          have HB := Lib.hid (rbranch_any S i d 36 n none 0 0 p7 ys.length c7 w2 HR5.out)
          clear hln
          obtain ⟨nl, hnl⟩ : ∃ nl, nl = ys.length := ⟨_, rfl⟩
          have HNL := Lib.hid hnl
          rw [← hnl] at HO5 HK5 h1 h1i hgk HB ⊢
          clear hnl
          go_wp2_with fail
          refine HB.out.mono ?_
          rintro e w7 ⟨rfl, hb7⟩
          have HL := node_lies (w0 := w) (w1 := w) (N := w.heap.size + 1) 36 0 n i (names_none (w := w7)) (by rw [← HNL.out]; exact ownsRow_below HO5.out hb7) (HK5.out.step hb7)
          have FIN := Lib.hid (fin_box (o := tot) (node 36 n i [] (ys.map Br.pb)) 36 0 n i none 0 0 _ p7 nl c7 ys (HR5.out.step hb7) (grown_trans HG5.out (grown_below hb7 _)) hgl hgwl HTOT2.out HL.1 HL.2 (by simp [Br.pb, pbs_map, node]))
          clear HL hb7
          have c0 := FIN.out.c0
          have c1 := FIN.out.c1
          have c2 := FIN.out.c2
          have c3 := FIN.out.c3
          have c4 := FIN.out.c4
          have c5 := FIN.out.c5
          have f0 := FIN.out.fz 0
          have f1 := FIN.out.fz 1
          have f2 := FIN.out.fz 2
          have f3 := FIN.out.fz 3
          have f4 := FIN.out.fz 4
          have f5 := FIN.out.fz 5
          go_wp2_with fail
          obtain ⟨_, _, _, _, _, _, _, d0, d1, d2, d3, d4, d5, hfin⟩ := FIN.out
          refine bodyPost_ret (by simp [results, Tryz.results77, go_sem, d0, d1, d2, d3, d4, d5, Result.andThen]; try rfl) rfl ?_
          exact hfin
      · have HEQ : Hid (tot = ((atomO S F rec d i).bind fun b n' => callL S F rec d gk (ys.map Br.pb ++ [b]) n').bind fun l n2 => Out.ok (oneOr l 36 n n2 []) n2) := Lib.hid (by rw [HLS.out, hm]; rfl)
        have HND : Hid (atomO S F rec d i ≠ .dry) := Lib.hid (bind_dry (bind_dry (by rw [← HEQ.out]; exact HDRY.out)))
        clear hm HLS
        go_wp2_with fail
        refine HP.out.mono ?_
        rintro e w2 ⟨rfl, hb2⟩
        have hb2 := HBA.out.trans (hb2.mono HBA.out.size)
        have HO2 := Lib.hid (ownsRow_below HO.out hb2)
        have HK2 := Lib.hid (HK.out.step hb2)
        have HG2 := Lib.hid (grown_trans HGR.out (grown_below hb2 _))
        have hz2 : w.heap.size + 1 ≤ w2.heap.size := Nat.le_trans hzr hb2.size
        have HX := Lib.hid (HRD.out i w2 (HRr.out.step hb2) HND.out)
        clear hb2 HBA HP
        go_wp2_with fail
        refine HX.out.mono ?_
        rintro e w3 (⟨b3, n3, v, hpo, rfl, ⟨y3, rfl, hyl, hyo, hyp⟩, hr3, hg3⟩ | ⟨ch, ho, rfl, hg3⟩)
        · have hz3 := hg3.size
          have HL3 : Hid (tot = (callL S F rec d gk ((ys ++ [y3]).map Br.pb) n3).bind fun l n2 => Out.ok (oneOr l 36 n n2 []) n2) := Lib.hid (by rw [HEQ.out, hpo, List.map_append, List.map_cons, List.map_nil, hyp]; rfl)
          have hB4 : Below w3.heap.size w3 (w3.alloc (.cells #[.int .i64 y3.h.k, .int .i64 y3.h.m, .int .i64 y3.h.f, .int .i64 y3.h.t, .slice y3.h.np y3.h.nn y3.h.nc, .slice y3.h.kp y3.h.kn y3.h.kc] 26)) := (Below.refl _ _).alloc (Nat.le_refl _) _
          have hO3 := HO2.out.kept hg3 (Or.inr (fun e => by have := (HO2.out.lt _ e).1; omega))
          have HO4 := Lib.hid (ownsRow_below hO3 hB4)
          have HK3 := Lib.hid (HK2.out.grow hg3 (by omega))
          have HR4 := Lib.hid (hr3.step hB4)
          have HG4 := Lib.hid (grown_trans (grown_trans HG2.out hg3) (grown_below hB4 (some S.g)))
          have HN4 := Lib.hid (World.news_of_block (heap_alloc_new w3 (.cells #[.int .i64 y3.h.k, .int .i64 y3.h.m, .int .i64 y3.h.f, .int .i64 y3.h.t, .slice y3.h.np y3.h.nn y3.h.nc, .slice y3.h.kp y3.h.kn y3.h.kc] 26)))
          have HLT := Lib.hid (fun q hq => (HO4.out.lt q hq).1)
          have HVB := Lib.hid (fun q hq => (HO2.out.lt q hq).2)
          have HYL := Lib.hid hyl
          have HYO := Lib.hid hyo
          have hz4 : w.heap.size + 1 ≤ w3.heap.size := by omega
          clear hpo hyl hyo hyp hr3 hg3 hO3 hB4
          generalize hacl : ys.length = al at *
          have HACL := Lib.hid hacl
          clear hacl
          go_wp2_with (at_builtin; refine wpList_append_lies _ rfl _ _ 24 rfl (w.heap.size + 1) 26 i0 _ 6 80 Tryz.underlying24 hi0 hy0 hy1 hy2 rfl (by omega) _ al _ rfl HO4.out ⟨w3.heap.size, 0, none⟩ 1 1 (hcells y3.h) rfl rfl HN4.out (hcells_one y3.h) (by omega) (by unfold maxLen; omega) (by omega) (by simp; omega) (w3.heap.size + 1) (by simp) ?_)
          intro g5 c5 w5 hown5 hgrow5 hat5 hlt5
          have hall : (ys ++ [y3]).length = al + 1 := by simp [HACL.out]
          have hO5 : w5.ownsRow (w.heap.size + 1) 26 6 (.slice (some ⟨g5, 0, none⟩) (ys ++ [y3]).length c5) (ys ++ [y3]).length (cellsK (ys ++ [y3])) := by
            rw [hall, cellsK_append]; simpa [cellsK] using hown5
          have HO5 := Lib.hid hO5
          have HK5 := Lib.hid (kids_append (v5 := .slice (some ⟨g5, 0, none⟩) (ys ++ [y3]).length c5) HK3.out HVB.out hz2 hz3 hgrow5 hat5 rfl HYL.out HYO.out)
          have HR5 := Lib.hid (HR4.out.grow hgrow5 (fun e => by have := HLT.out _ e; omega) (fun e => by have := HLT.out _ e; omega))
          have HG5 := Lib.hid (grown_own HG4.out hgrow5 (fun q hq => by have := HLT.out q hq; omega))
          clear hown5 hgrow5 hat5 hlt5 hO5
          go_wp2_with fail
          go_roundg gk
          case measure => omega
          case rel => exact ⟨ys ++ [y3], n3, _, c5, by rw [hall], by rw [hall]; omega, HL3, HO5, HK5, HR5, HG5.out⟩
        · exact ⟨rfl, Or.inr ⟨ch, by rw [HEQ.out]; exact pan_bind (pan_bind ho), rfl, grown_trans (grown_below ((Below.refl _ _).alloc (Nat.le_refl _) _) _) (grown_trans HG2.out hg3)⟩⟩
  · exact ⟨rfl, Or.inr ⟨ch, by rw [HTOT.out]; exact pan_bind ho, rfl, grown_trans (grown_below ((Below.refl _ _).alloc (Nat.le_refl _) _) _) hg⟩⟩
end Go.Proofs.YtkjgkchdkeggoaaGreatDoor
