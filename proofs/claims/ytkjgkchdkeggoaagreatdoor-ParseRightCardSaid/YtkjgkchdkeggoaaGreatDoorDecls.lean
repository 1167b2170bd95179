/-
  The reader's local.; The reader's declares.; The reader's decs.; The reader's function.; The reader's body, structure and functor.; The reader's structure.; The reader's functor.; The reader's spec.
-/
import Derived.Test.YtkjgkchdkeggoaaGreatDoorKeep
import Derived.Test.YtkjgkchdkeggoaaGreatDoorSmall
namespace Go.Proofs.YtkjgkchdkeggoaaGreatDoor
open Go.RowKit
set_option maxRecDepth 20000
set_option linter.unusedVariables false
set_option linter.unusedSimpArgs false

set_option maxHeartbeats 4000000 in
theorem local_any (S : Src) (F : Nat) (rec : Nt → Nat → Nat → Out Pb) (d : Nat) (at_ fr n : Nat) (w : World) (h : Rd w S n d)
    (hD : ∀ k w', Rd w' S k d → decsO S F rec d at_ k ≠ .dry → Calls Tryz.prog 39 #[.pointer (some ⟨S.g, 0, none⟩), .int .i64 (at_ : Int)] w' fun e w'' => Ends S d w' (decsO S F rec d at_ k) (RK w') e w'')
    (hdry : localO S F rec d fr at_ n ≠ .dry) :
    Calls Tryz.prog 88 #[.pointer (some ⟨S.g, 0, none⟩), .int .i64 (fr : Int), .int .i64 (at_ : Int)] w fun e w' => Ends S d w (localO S F rec d fr at_ n) (RB w) e w' := by
  have hgl := h.lt
  have hgwl := h.row
  have ST0 := Lib.hid (St.init h [] (by simp))
  have HDE := Lib.hid hD
  obtain ⟨tot, htot⟩ : ∃ tot, tot = localO S F rec d fr at_ n := ⟨_, rfl⟩
  have HD : Hid (tot ≠ .dry) := Lib.hid (by rw [htot]; exact hdry)
  rw [← htot]
  unfold localO at htot
  have EQ0 := Lib.hid htot
  clear h hdry htot hD
  go_enter Tryz.func88, Tryz.ntmps88
  have HC := Lib.hid (within_any S F rec d at_ ((n)) _ ST0.out.rd (fun w' hr hnd => HDE.out _ w' hr hnd) (bind_dry (by rw [← EQ0.out]; exact HD.out)))
  go_wp2_with fail
  refine HC.out.mono ?_
  rintro e w2 (⟨x2, n2, v2, hpo, rfl, ⟨y2, hv, hyl, hyo, rfl⟩, hr, hg⟩ | ⟨ch, ho, rfl, hg⟩)
  rotate_left
  · exact ⟨rfl, Or.inr ⟨ch, by rw [EQ0.out]; exact pan_bind (ho), rfl, ST0.out.pan hg⟩⟩
  have e3 := EQ0.out
  rw [show _ = Out.ok _ _ from hpo, bind_ok] at e3
  have EQ3 := Lib.hid e3
  clear e3 EQ0
  have HY2 := Lib.hid (And.intro hyl (hyo.mono (fun q hq => Nat.le_trans ST0.out.size hq) _))
  simp only [Hd.val] at hv
  subst hv
  have ST4 := Lib.hid (ST0.out.grow hr hg)
  clear hr hg ST0 hyl hyo hpo HC
  have hbx := ST4.out.box HY2.out.1 HY2.out.2
  have hsz := ST4.out.size
  have hlt := ST4.out.lt
  have hn1 : ¬ S.g = w2.heap.size := by omega
  have hn2 : ¬ w2.heap.size = S.g := by omega
  have hrb := heap_alloc_new w2 boxZ
  have qq := Lib.cell_of_heap hrb
  have r0 := qq 0
  have r1 := qq 1
  have r2 := qq 2
  have r3 := qq 3
  have r4 := qq 4
  have r5 := qq 5
  simp only [List.getElem?_toArray, List.getElem?_cons_zero, List.getElem?_cons_succ, boxZ] at r0 r1 r2 r3 r4 r5
  have fz : ∀ i, (w2.alloc boxZ).frozen? ⟨w2.heap.size, i, none⟩ = false := fun i => cells_frozen hrb i
  have f0 := fz 0
  have f1 := fz 1
  have f2 := fz 2
  have f3 := fz 3
  have f4 := fz 4
  have f5 := fz 5
  have STx := Lib.hid hbx
  clear hbx hrb qq fz hsz hlt ST4  HY2
  rename_i K1 hK1 K0 hK0
  show K0 _ _
  refine hK0 _ _ ?_
  refine wpList_step fun K2 hK2 => ?_
  rw [if_pos (wanted_none rfl)]
  unfold Oper.wp
  have hrun : ∀ a : Act, (execOp a.eval { dst := some 7, op := Op.alloc 26, type := 0, pos := "decs.go:174", after := #[], guard := none }).run Tryz.prog w2 = .ok (.value (.pointer (some ⟨w2.heap.size, 0, none⟩))) (w2.alloc boxZ) := fun a => by
    generalize a.eval = ρ
    simp [go_sem]
    try rfl
  rw [hrun, Oper.upon_value]
  refine hK2 _ _ ?_
  clear hrun hK2 hK0
  simp only [Act.put, List.setIfInBounds_toArray, List.set_cons_zero, List.set_cons_succ] at *
  generalize hb5 : w2.heap.size = b5 at *
  generalize w2.alloc boxZ = A5 at *
  clear hb5
  have HC := Lib.hid (rneed_any S ((n2)) d ⟨#[105, 110]⟩ _ STx.out.rd (by simp))
  go_wp2_with fail
  refine HC.out.mono ?_
  rintro e w6 (⟨x6, n6, v6, hpo, rfl, hv, hr, hg⟩ | ⟨ch, ho, rfl, hg⟩)
  rotate_left
  · exact ⟨rfl, Or.inr ⟨ch, by rw [EQ3.out]; exact pan_bind (ho), rfl, STx.out.pan hg⟩⟩
  have e7 := EQ3.out
  rw [show _ = Out.ok _ _ from hpo, bind_ok] at e7
  have EQ7 := Lib.hid e7
  clear e7 EQ3
  obtain rfl : v6 = .tuple #[] := hv
  have ST8 := Lib.hid (STx.out.grow hr hg)
  clear hr hg STx hpo HC
  clear r0 r1 r2 r3 r4 r5 f0 f1 f2 f3 f4 f5 hn1 hn2
  have HC := Lib.hid (within_any S F rec d at_ ((n6)) _ ST8.out.rd (fun w' hr hnd => HDE.out _ w' hr hnd) (bind_dry (by rw [← EQ7.out]; exact HD.out)))
  go_wp2_with fail
  refine HC.out.mono ?_
  rintro e w9 (⟨x9, n9, v9, hpo, rfl, ⟨y9, hv, hyl, hyo, rfl⟩, hr, hg⟩ | ⟨ch, ho, rfl, hg⟩)
  rotate_left
  · exact ⟨rfl, Or.inr ⟨ch, by rw [EQ7.out]; exact pan_bind (ho), rfl, ST8.out.pan hg⟩⟩
  have e10 := EQ7.out
  rw [show _ = Out.ok _ _ from hpo, bind_ok] at e10
  have EQ10 := Lib.hid e10
  clear e10 EQ7
  have HY9 := Lib.hid (And.intro hyl (hyo.mono (fun q hq => Nat.le_trans ST8.out.size hq) _))
  simp only [Hd.val] at hv
  subst hv
  have ST11 := Lib.hid (ST8.out.grow hr hg)
  clear hr hg ST8 hyl hyo hpo HC
  have hbx := ST11.out.box HY9.out.1 HY9.out.2
  have hsz := ST11.out.size
  have hlt := ST11.out.lt
  have hn1 : ¬ S.g = w9.heap.size := by omega
  have hn2 : ¬ w9.heap.size = S.g := by omega
  have hrb := heap_alloc_new w9 boxZ
  have qq := Lib.cell_of_heap hrb
  have r0 := qq 0
  have r1 := qq 1
  have r2 := qq 2
  have r3 := qq 3
  have r4 := qq 4
  have r5 := qq 5
  simp only [List.getElem?_toArray, List.getElem?_cons_zero, List.getElem?_cons_succ, boxZ] at r0 r1 r2 r3 r4 r5
  have fz : ∀ i, (w9.alloc boxZ).frozen? ⟨w9.heap.size, i, none⟩ = false := fun i => cells_frozen hrb i
  have f0 := fz 0
  have f1 := fz 1
  have f2 := fz 2
  have f3 := fz 3
  have f4 := fz 4
  have f5 := fz 5
  have STx := Lib.hid hbx
  clear hbx hrb qq fz hsz hlt ST11  HY9
  rename_i K1 hK1 K0 hK0
  show K0 _ _
  refine hK0 _ _ ?_
  refine wpList_step fun K2 hK2 => ?_
  rw [if_pos (wanted_none rfl)]
  unfold Oper.wp
  have hrun : ∀ a : Act, (execOp a.eval { dst := some 8, op := Op.alloc 26, type := 0, pos := "decs.go:176", after := #[], guard := none }).run Tryz.prog w9 = .ok (.value (.pointer (some ⟨w9.heap.size, 0, none⟩))) (w9.alloc boxZ) := fun a => by
    generalize a.eval = ρ
    simp [go_sem]
    try rfl
  rw [hrun, Oper.upon_value]
  refine hK2 _ _ ?_
  clear hrun hK2 hK0
  simp only [Act.put, List.setIfInBounds_toArray, List.set_cons_zero, List.set_cons_succ] at *
  generalize hb12 : w9.heap.size = b12 at *
  generalize w9.alloc boxZ = A12 at *
  clear hb12
  have HC := Lib.hid (rneed_any S ((n9)) d ⟨#[101, 110, 100]⟩ _ STx.out.rd (by simp))
  go_wp2_with fail
  refine HC.out.mono ?_
  rintro e w13 (⟨x13, n13, v13, hpo, rfl, hv, hr, hg⟩ | ⟨ch, ho, rfl, hg⟩)
  rotate_left
  · exact ⟨rfl, Or.inr ⟨ch, by rw [EQ10.out]; exact pan_bind (ho), rfl, STx.out.pan hg⟩⟩
  have e14 := EQ10.out
  rw [show _ = Out.ok _ _ from hpo, bind_ok] at e14
  have EQ14 := Lib.hid e14
  clear e14 EQ10
  obtain rfl : v13 = .tuple #[] := hv
  have ST15 := Lib.hid (STx.out.grow hr hg)
  clear hr hg STx hpo HC
  clear r0 r1 r2 r3 r4 r5 f0 f1 f2 f3 f4 f5 hn1 hn2
  have qq := Lib.cell_of_heap (ST15.out.b (b12, y9) (by simp)).1
  have l00 := qq 0
  have l01 := qq 1
  have l02 := qq 2
  have l03 := qq 3
  have l04 := qq 4
  have l05 := qq 5
  simp only [List.getElem?_toArray, List.getElem?_cons_zero, List.getElem?_cons_succ] at l00 l01 l02 l03 l04 l05
  clear qq
  have qq := Lib.cell_of_heap (ST15.out.b (b5, y2) (by simp)).1
  have l10 := qq 0
  have l11 := qq 1
  have l12 := qq 2
  have l13 := qq 3
  have l14 := qq 4
  have l15 := qq 5
  simp only [List.getElem?_toArray, List.getElem?_cons_zero, List.getElem?_cons_succ] at l10 l11 l12 l13 l14 l15
  clear qq
  have hys16 : ∀ u ∈ [y2, y9], u.Lies w13 ∧ u.On (fun q => (w.alloc boxZ).heap.size ≤ q) := (List.forall_mem_cons.2 ⟨(ST15.out.b (b5, y2) (by simp)).2.2, (List.forall_mem_cons.2 ⟨(ST15.out.b (b12, y9) (by simp)).2.2, (fun _ h => nomatch h)⟩)⟩)
  have ST16 : Hid (St S _ d _ (w13.alloc (.cells #[.int .i64 y2.h.k, .int .i64 y2.h.m, .int .i64 y2.h.f, .int .i64 y2.h.t, .slice y2.h.np y2.h.nn y2.h.nc, .slice y2.h.kp y2.h.kn y2.h.kc, .int .i64 y9.h.k, .int .i64 y9.h.m, .int .i64 y9.h.f, .int .i64 y9.h.t, .slice y9.h.np y9.h.nn y9.h.nc, .slice y9.h.kp y9.h.kn y9.h.kc] 26)) _) := Lib.hid (ST15.out.newK [y2, y9] (by simp) hys16)
  clear hys16
  have HB := Lib.hid (rbranch_any S (n13) d 14 (fr : Nat) none 0 0 (some ⟨w13.heap.size, 0, none⟩) 2 2 _ ST16.out.rd)
  go_wp2_with fail
  refine HB.out.mono ?_
  rintro e w17 ⟨rfl, hb⟩
  have ST18 := Lib.hid (ST16.out.below hb)
  clear hb ST16 HB
  clear l00 l01 l02 l03 l04 l05 l10 l11 l12 l13 l14 l15
  have FIN := Lib.hid (ST18.out.fin (k := 14) (m := 0) (f := fr) hgl hgwl St.noN (ST18.out.ks (.slice (some ⟨w13.heap.size, 0, none⟩) 2 2, [y2, y9]) (by simp)) EQ14.out)
  clear ST18 EQ14
  have c0 := FIN.out.c0
  have c1 := FIN.out.c1
  have c2 := FIN.out.c2
  have c3 := FIN.out.c3
  have c4 := FIN.out.c4
  have c5 := FIN.out.c5
  have f0 := FIN.out.fz 0
  have f1 := FIN.out.fz 1
  have f2 := FIN.out.fz 2
  have f3 := FIN.out.fz 3
  have f4 := FIN.out.fz 4
  have f5 := FIN.out.fz 5
  go_wp2_with fail
  obtain ⟨_, _, _, _, _, _, _, d0, d1, d2, d3, d4, d5, hfin⟩ := FIN.out
  refine bodyPost_ret (by simp [results, Tryz.results88, go_sem, d0, d1, d2, d3, d4, d5, Result.andThen]; try rfl) rfl ?_
  exact hfin
end Go.Proofs.YtkjgkchdkeggoaaGreatDoor

namespace Go.Proofs.YtkjgkchdkeggoaaGreatDoor
open Go.RowKit
set_option maxRecDepth 20000
set_option linter.unusedVariables false
set_option linter.unusedSimpArgs false

set_option maxHeartbeats 4000000 in
theorem declares_any (S : Src) (n d at_ : Nat) (w : World) (h : Rd w S n d) :
    Calls Tryz.prog 59 #[.pointer (some ⟨S.g, 0, none⟩), .int .i64 (at_ : Int)] w fun e w' => e = .returned (.bool (declares S at_ n)) ∧ Below w.heap.size w w' := by
  have q2 := h.c2
  have HT := Lib.hid (rtext_any S n d n w h h.here)
  clear h
  cases h0 : S.is n [115, 105, 103, 110, 97, 116, 117, 114, 101]
  · cases h1 : S.is n [102, 117, 110, 99, 116, 111, 114]
    · cases h2 : S.is n [115, 116, 114, 117, 99, 116, 117, 114, 101]
      · cases h3 : S.is n [118, 97, 108]
        · cases h4 : S.is n [102, 117, 110]
          · cases h5 : S.is n [116, 121, 112, 101]
            · cases h6 : S.is n [100, 97, 116, 97, 116, 121, 112, 101]
              · cases h7 : S.is n [111, 112, 101, 110]
                · cases h8 : S.is n [108, 111, 99, 97, 108]
                  · have hres : declares S at_ n = false := by
                      unfold declares
                      simp [h0, h1, h2, h3, h4, h5, h6, h7, h8]
                    rw [hres]
                    clear hres
                    have t0 := is_tx h0
                    have t1 := is_tx h1
                    have t2 := is_tx h2
                    have t3 := is_tx h3
                    have t4 := is_tx h4
                    have t5 := is_tx h5
                    have t6 := is_tx h6
                    have t7 := is_tx h7
                    have t8 := is_tx h8
                    clear h0 h1 h2 h3 h4 h5 h6 h7 h8
                    generalize S.tx n = x at *
                    go_enter Tryz.func59, Tryz.ntmps59
                    go_wp2_with fail
                    refine HT.out.mono ?_
                    rintro e w1 ⟨rfl, hb⟩
                    have HB := Lib.hid hb
                    clear hb
                    go_wp2_with fail
                    go_ret
                    exact ⟨rfl, HB.out⟩
                  · have hres : declares S at_ n = true := by
                      unfold declares
                      simp [h0, h1, h2, h3, h4, h5, h6, h7, h8]
                    rw [hres]
                    clear hres
                    have t0 := is_tx h0
                    have t1 := is_tx h1
                    have t2 := is_tx h2
                    have t3 := is_tx h3
                    have t4 := is_tx h4
                    have t5 := is_tx h5
                    have t6 := is_tx h6
                    have t7 := is_tx h7
                    have t8 := is_tx h8
                    clear h0 h1 h2 h3 h4 h5 h6 h7 h8
                    generalize S.tx n = x at *
                    go_enter Tryz.func59, Tryz.ntmps59
                    go_wp2_with fail
                    refine HT.out.mono ?_
                    rintro e w1 ⟨rfl, hb⟩
                    have HB := Lib.hid hb
                    clear hb
                    go_wp2_with fail
                    go_ret
                    exact ⟨rfl, HB.out⟩
                · have hres : declares S at_ n = true := by
                    unfold declares
                    simp [h0, h1, h2, h3, h4, h5, h6, h7]
                  rw [hres]
                  clear hres
                  have t0 := is_tx h0
                  have t1 := is_tx h1
                  have t2 := is_tx h2
                  have t3 := is_tx h3
                  have t4 := is_tx h4
                  have t5 := is_tx h5
                  have t6 := is_tx h6
                  have t7 := is_tx h7
                  clear h0 h1 h2 h3 h4 h5 h6 h7
                  generalize S.tx n = x at *
                  go_enter Tryz.func59, Tryz.ntmps59
                  go_wp2_with fail
                  refine HT.out.mono ?_
                  rintro e w1 ⟨rfl, hb⟩
                  have HB := Lib.hid hb
                  clear hb
                  go_wp2_with fail
                  go_ret
                  exact ⟨rfl, HB.out⟩
              · have hres : declares S at_ n = true := by
                  unfold declares
                  simp [h0, h1, h2, h3, h4, h5, h6]
                rw [hres]
                clear hres
                have t0 := is_tx h0
                have t1 := is_tx h1
                have t2 := is_tx h2
                have t3 := is_tx h3
                have t4 := is_tx h4
                have t5 := is_tx h5
                have t6 := is_tx h6
                clear h0 h1 h2 h3 h4 h5 h6
                generalize S.tx n = x at *
                go_enter Tryz.func59, Tryz.ntmps59
                go_wp2_with fail
                refine HT.out.mono ?_
                rintro e w1 ⟨rfl, hb⟩
                have HB := Lib.hid hb
                clear hb
                go_wp2_with fail
                go_ret
                exact ⟨rfl, HB.out⟩
            · have hres : declares S at_ n = true := by
                unfold declares
                simp [h0, h1, h2, h3, h4, h5]
              rw [hres]
              clear hres
              have t0 := is_tx h0
              have t1 := is_tx h1
              have t2 := is_tx h2
              have t3 := is_tx h3
              have t4 := is_tx h4
              have t5 := is_tx h5
              clear h0 h1 h2 h3 h4 h5
              generalize S.tx n = x at *
              go_enter Tryz.func59, Tryz.ntmps59
              go_wp2_with fail
              refine HT.out.mono ?_
              rintro e w1 ⟨rfl, hb⟩
              have HB := Lib.hid hb
              clear hb
              go_wp2_with fail
              go_ret
              exact ⟨rfl, HB.out⟩
          · have hres : declares S at_ n = true := by
              unfold declares
              simp [h0, h1, h2, h3, h4]
            rw [hres]
            clear hres
            have t0 := is_tx h0
            have t1 := is_tx h1
            have t2 := is_tx h2
            have t3 := is_tx h3
            have t4 := is_tx h4
            clear h0 h1 h2 h3 h4
            generalize S.tx n = x at *
            go_enter Tryz.func59, Tryz.ntmps59
            go_wp2_with fail
            refine HT.out.mono ?_
            rintro e w1 ⟨rfl, hb⟩
            have HB := Lib.hid hb
            clear hb
            go_wp2_with fail
            go_ret
            exact ⟨rfl, HB.out⟩
        · have hres : declares S at_ n = true := by
            unfold declares
            simp [h0, h1, h2, h3]
          rw [hres]
          clear hres
          have t0 := is_tx h0
          have t1 := is_tx h1
          have t2 := is_tx h2
          have t3 := is_tx h3
          clear h0 h1 h2 h3
          generalize S.tx n = x at *
          go_enter Tryz.func59, Tryz.ntmps59
          go_wp2_with fail
          refine HT.out.mono ?_
          rintro e w1 ⟨rfl, hb⟩
          have HB := Lib.hid hb
          clear hb
          go_wp2_with fail
          go_ret
          exact ⟨rfl, HB.out⟩
      · by_cases hat : at_ < 1
        · have hres : declares S at_ n = false := by
            unfold declares
            simp [h0, h1, h2]; omega
          rw [hres]
          clear hres
          have t0 := is_tx h0
          have t1 := is_tx h1
          have t2 := is_tx h2
          clear h0 h1 h2
          have hai : (at_ : Int) < 1 := by omega
          have had : decide ((at_ : Int) < 1) = true := by simp; omega
          generalize S.tx n = x at *
          go_enter Tryz.func59, Tryz.ntmps59
          go_wp2_with fail
          refine HT.out.mono ?_
          rintro e w1 ⟨rfl, hb⟩
          have HB := Lib.hid hb
          clear hb
          go_wp2_with fail
          go_ret
          exact ⟨rfl, HB.out⟩
        · have hres : declares S at_ n = true := by
            unfold declares
            simp [h0, h1, h2]; omega
          rw [hres]
          clear hres
          have t0 := is_tx h0
          have t1 := is_tx h1
          have t2 := is_tx h2
          clear h0 h1 h2
          have hai : ¬ (at_ : Int) < 1 := by omega
          have had : decide ((at_ : Int) < 1) = false := by simp; omega
          generalize S.tx n = x at *
          go_enter Tryz.func59, Tryz.ntmps59
          go_wp2_with fail
          refine HT.out.mono ?_
          rintro e w1 ⟨rfl, hb⟩
          have HB := Lib.hid hb
          clear hb
          go_wp2_with fail
          go_ret
          exact ⟨rfl, HB.out⟩
    · by_cases hat : at_ < 2
      · have hres : declares S at_ n = false := by
          unfold declares
          simp [h0, h1]; omega
        rw [hres]
        clear hres
        have t0 := is_tx h0
        have t1 := is_tx h1
        clear h0 h1
        have hai : (at_ : Int) < 2 := by omega
        have had : decide ((at_ : Int) < 2) = true := by simp; omega
        generalize S.tx n = x at *
        go_enter Tryz.func59, Tryz.ntmps59
        go_wp2_with fail
        refine HT.out.mono ?_
        rintro e w1 ⟨rfl, hb⟩
        have HB := Lib.hid hb
        clear hb
        go_wp2_with fail
        go_ret
        exact ⟨rfl, HB.out⟩
      · have hres : declares S at_ n = true := by
          unfold declares
          simp [h0, h1]; omega
        rw [hres]
        clear hres
        have t0 := is_tx h0
        have t1 := is_tx h1
        clear h0 h1
        have hai : ¬ (at_ : Int) < 2 := by omega
        have had : decide ((at_ : Int) < 2) = false := by simp; omega
        have hai1 : ¬ (at_ : Int) < 1 := by omega
        have had1 : decide ((at_ : Int) < 1) = false := by simp; omega
        generalize S.tx n = x at *
        go_enter Tryz.func59, Tryz.ntmps59
        go_wp2_with fail
        refine HT.out.mono ?_
        rintro e w1 ⟨rfl, hb⟩
        have HB := Lib.hid hb
        clear hb
        go_wp2_with fail
        go_ret
        exact ⟨rfl, HB.out⟩
  · by_cases hat : at_ < 2
    · have hres : declares S at_ n = false := by
        unfold declares
        simp [h0]; omega
      rw [hres]
      clear hres
      have t0 := is_tx h0
      clear h0
      have hai : (at_ : Int) < 2 := by omega
      have had : decide ((at_ : Int) < 2) = true := by simp; omega
      generalize S.tx n = x at *
      go_enter Tryz.func59, Tryz.ntmps59
      go_wp2_with fail
      refine HT.out.mono ?_
      rintro e w1 ⟨rfl, hb⟩
      have HB := Lib.hid hb
      clear hb
      go_wp2_with fail
      go_ret
      exact ⟨rfl, HB.out⟩
    · have hres : declares S at_ n = true := by
        unfold declares
        simp [h0]; omega
      rw [hres]
      clear hres
      have t0 := is_tx h0
      clear h0
      have hai : ¬ (at_ : Int) < 2 := by omega
      have had : decide ((at_ : Int) < 2) = false := by simp; omega
      have hai1 : ¬ (at_ : Int) < 1 := by omega
      have had1 : decide ((at_ : Int) < 1) = false := by simp; omega
      generalize S.tx n = x at *
      go_enter Tryz.func59, Tryz.ntmps59
      go_wp2_with fail
      refine HT.out.mono ?_
      rintro e w1 ⟨rfl, hb⟩
      have HB := Lib.hid hb
      clear hb
      go_wp2_with fail
      go_ret
      exact ⟨rfl, HB.out⟩
end Go.Proofs.YtkjgkchdkeggoaaGreatDoor

namespace Go.Proofs.YtkjgkchdkeggoaaGreatDoor
open Go.RowKit
set_option maxRecDepth 20000
set_option linter.unusedVariables false
set_option linter.unusedSimpArgs false

set_option maxHeartbeats 4000000 in
theorem decs_any (S : Src) (F : Nat) (rec : Nt → Nat → Nat → Out Pb) (d : Nat) (hs : Said S rec d) (hF0 : F ≤ 1000000000) (at_ : Nat) (n : Nat) (w : World) (h : Rd w S n d) (hdry : decsO S F rec d at_ n ≠ .dry) :
    Calls Tryz.prog 39 #[.pointer (some ⟨S.g, 0, none⟩), .int .i64 (at_ : Int)] w fun e w' => Ends S d w (decsO S F rec d at_ n) (RK w) e w' := by
  have hgl := h.lt
  have hgwl := h.row
  have hbd := h.bound
  have ST0 := Lib.hid (St.initN h [] ((by simp)))
  have HS := Lib.hid hs
  obtain ⟨tot, htot⟩ : ∃ tot, tot = decsO S F rec d at_ n := ⟨_, rfl⟩
  have HD : Hid (tot ≠ .dry) := Lib.hid (by rw [htot]; exact hdry)
  rw [← htot]
  unfold decsO at htot
  have EQ0 := Lib.hid htot
  clear h hdry htot hs
  have ST1 := Lib.hid (ST0.out.addK (v := .slice none 0 0) (ys := []) St.noK.1 St.noK.2)
  go_enter Tryz.func39, Tryz.ntmps39
  go_wp2_with fail
  go_loopg [5] F (fun gk v5 wr => ∃ (ys : List Br) (i : Nat) (p5 : Option Addr) (c5 : Nat), v5 = .slice p5 ys.length c5 ∧ ys.length + gk ≤ F ∧ Hid (tot = decsL S rec d at_ gk (ys.map Br.pb) i) ∧ Hid (St S w d ⟨[], [], [], [(.slice p5 ys.length c5, ys)]⟩ wr i))
  case atStart => exact ⟨[], n, _, _, rfl, by simp, EQ0, ST1⟩
  case round =>
    obtain ⟨ys, i, p5, c5, rfl, hal, HL, STr⟩ := hrel
    cases gk with
    | zero => exact absurd HL.out (by intro e; exact HD.out e)
    | succ gk =>
    have hls := HL.out
    simp only [decsL] at hls
    have EQr := Lib.hid hls
    clear hls HL
    cases hsemi : S.is i [59]
    · have e2 := EQr.out
      simp only [hsemi, cond_false] at e2
      have EQ2 := Lib.hid e2
      clear e2 EQr
      cases hdec : declares S 2 i
      · have e3 := EQ2.out
        simp only [hdec, cond_false] at e3
        have EQ3 := Lib.hid e3
        clear e3 EQ2
        have HP := Lib.hid (rpass_any S (i) d ⟨#[59]⟩ _ STr.out.rd (by simp))
        simp only [hsemi, cond_true, cond_false] at HP
        go_wp2_with fail
        refine HP.out.mono ?_
        rintro e w4 ⟨rfl, hr, hg⟩
        have ST5 := Lib.hid (STr.out.grow hr hg)
        clear hr hg STr HP
        have HP := Lib.hid (declares_any S i d 2 _ ST5.out.rd)
        simp only [hdec] at HP
        go_wp2_with fail
        refine HP.out.mono ?_
        rintro e w6 ⟨rfl, hb⟩
        have ST7 := Lib.hid (ST5.out.below hb)
        clear hb ST5 HP
        go_wp2_with fail
        go_ret
        exact Or.inl ⟨_, i, _, EQ3.out, rfl, ⟨ys, (ST7.out.ks _ (List.mem_singleton.2 rfl)).1, (ST7.out.ks _ (List.mem_singleton.2 rfl)).2, rfl⟩, ST7.out.rd, ST7.out.gr⟩
      · have e3 := EQ2.out
        simp only [hdec, cond_true] at e3
        have EQ3 := Lib.hid e3
        clear e3 EQ2
        have HP := Lib.hid (rpass_any S (i) d ⟨#[59]⟩ _ STr.out.rd (by simp))
        simp only [hsemi, cond_true, cond_false] at HP
        go_wp2_with fail
        refine HP.out.mono ?_
        rintro e w4 ⟨rfl, hr, hg⟩
        have ST5 := Lib.hid (STr.out.grow hr hg)
        clear hr hg STr HP
        have HP := Lib.hid (declares_any S i d 2 _ ST5.out.rd)
        simp only [hdec] at HP
        go_wp2_with fail
        refine HP.out.mono ?_
        rintro e w6 ⟨rfl, hb⟩
        have ST7 := Lib.hid (ST5.out.below hb)
        clear hb ST5 HP
        have HC := Lib.hid (HS.out.dec at_ ((i)) _ ST7.out.rd hdec (bind_dry (by rw [← EQ3.out]; exact HD.out)))
        go_wp2_with fail
        refine HC.out.mono ?_
        rintro e w8 (⟨x8, n8, v8, hpo, rfl, ⟨y8, hv, hyl, hyo, rfl⟩, hr, hg⟩ | ⟨ch, ho, rfl, hg⟩)
        rotate_left
        · exact ⟨rfl, Or.inr ⟨ch, by rw [EQ3.out]; exact pan_bind (ho), rfl, grown_trans ST7.out.gr hg⟩⟩
        have e9 := EQ3.out
        rw [show _ = Out.ok _ _ from hpo, bind_ok] at e9
        have EQ9 := Lib.hid e9
        clear e9 EQ3
        have HY8 := Lib.hid (And.intro hyl (hyo.mono (fun q hq => Nat.le_trans ST7.out.size hq) _))
        simp only [Hd.val] at hv
        subst hv
        have HZ8 := Lib.hid (And.intro hyl (apart_of (ST7.out.ks (.slice p5 ys.length c5, ys) (by simp)).1 ST7.out.size hyo))
        have ST10 := Lib.hid (ST7.out.grow hr hg)
        clear hr hg ST7 hyl hyo hpo HC
        have HZ : Hid (∀ z ∈ [y8], z.Lies (w8.alloc (BC y8.h)) ∧ z.On (fun q => w.heap.size ≤ q ∧ some q ≠ (.slice p5 ys.length c5 : Value).ownBlock)) := Lib.hid (List.forall_mem_cons.2 ⟨And.intro (HZ8.out.1.step _ ((Below.refl w8.heap.size w8).alloc (Nat.le_refl _) (BC y8.h))) HZ8.out.2, (fun _ h => nomatch h)⟩)
        have STa := Lib.hid (ST10.out.below ((Below.refl w8.heap.size w8).alloc (Nat.le_refl _) (BC y8.h)))
        clear ST10 HY8 HZ8
        go_wp2_with (at_builtin; refine wpList_appK rfl _ _ rfl STa (.slice p5 ys.length c5) ys [y8] (by simp) ys.length 1 1 rfl rfl ⟨w8.heap.size, 0, none⟩ rfl rfl news_one HZ.out (by omega) (by omega) ?_)
        intro g11 cp11 w11 ST11
        clear HZ STa
        go_wp2_with fail
        go_roundg gk
        case measure => omega
        case rel => exact ⟨ys ++ [y8], n8, _, _, by rw [List.length_append]; rfl, by simp only [List.length_append, List.length_cons, List.length_nil]; omega, Lib.hid (by have e := EQ9.out; simpa using e), Lib.hid (by have e := ST11.out; rw [show (ys ++ [y8]).length = ys.length + 1 by simp]; exact e)⟩
    · have e2 := EQr.out
      simp only [hsemi, cond_true] at e2
      have EQ2 := Lib.hid e2
      clear e2 EQr
      have HP := Lib.hid (rpass_any S (i) d ⟨#[59]⟩ _ STr.out.rd (by simp))
      simp only [hsemi, cond_true, cond_false] at HP
      go_wp2_with fail
      refine HP.out.mono ?_
      rintro e w3 ⟨rfl, hr, hg⟩
      have ST4 := Lib.hid (STr.out.grow hr hg)
      clear hr hg STr HP
      go_wp2_with fail
      go_roundg gk
      case measure => omega
      case rel => exact ⟨ys, i + 1, _, _, rfl, by omega, EQ2, ST4⟩
end Go.Proofs.YtkjgkchdkeggoaaGreatDoor

namespace Go.Proofs.YtkjgkchdkeggoaaGreatDoor
open Go.RowKit
set_option maxRecDepth 20000
set_option linter.unusedVariables false
set_option linter.unusedSimpArgs false

set_option maxHeartbeats 4000000 in
theorem function_any (S : Src) (F : Nat) (rec : Nt → Nat → Nat → Out Pb) (d : Nat) (hs : Said S rec d) (hF0 : F ≤ 1000000000) (n : Nat) (w : World) (h : Rd w S n d) (hdry : functionO S F rec d n ≠ .dry) :
    Calls Tryz.prog 83 #[.pointer (some ⟨S.g, 0, none⟩)] w fun e w' => Ends S d w (functionO S F rec d n) (RB w) e w' := by
  have hgl := h.lt
  have hgwl := h.row
  have hbd := h.bound
  have ST0 := Lib.hid (St.init h [] ((by simp)))
  have HS := Lib.hid hs
  obtain ⟨tot, htot⟩ : ∃ tot, tot = functionO S F rec d n := ⟨_, rfl⟩
  have HD : Hid (tot ≠ .dry) := Lib.hid (by rw [htot]; exact hdry)
  rw [← htot]
  unfold functionO at htot
  have EQ0 := Lib.hid htot
  clear h hdry htot hs
  go_enter Tryz.func83, Tryz.ntmps83
  have q2 := ST0.out.rd.c2
  have HC := Lib.hid (rvalue_any S ((n)) d _ ST0.out.rd)
  go_wp2_with fail
  refine HC.out.mono ?_
  rintro e w2 (⟨x2, n2, v2, hpo, rfl, hv, hr, hg⟩ | ⟨ch, ho, rfl, hg⟩)
  rotate_left
  · exact ⟨rfl, Or.inr ⟨ch, by rw [EQ0.out]; exact pan_bind (ho), rfl, ST0.out.pan hg⟩⟩
  have e3 := EQ0.out
  rw [show _ = Out.ok _ _ from hpo, bind_ok] at e3
  have EQ3 := Lib.hid e3
  clear e3 EQ0
  obtain rfl : v2 = .int .i64 (x2 : Int) := hv
  have ST4 := Lib.hid (ST0.out.grow hr hg)
  clear hr hg ST0 hpo HC
  clear q2
  have HC := Lib.hid (atomicPat_any S F rec d HS.out hF0 ((n2)) _ ST4.out.rd (bind_dry (by rw [← EQ3.out]; exact HD.out)))
  go_wp2_with fail
  refine HC.out.mono ?_
  rintro e w5 (⟨x5, n5, v5, hpo, rfl, ⟨y5, hv, hyl, hyo, rfl⟩, hr, hg⟩ | ⟨ch, ho, rfl, hg⟩)
  rotate_left
  · exact ⟨rfl, Or.inr ⟨ch, by rw [EQ3.out]; exact pan_bind (ho), rfl, ST4.out.pan hg⟩⟩
  have e6 := EQ3.out
  rw [show _ = Out.ok _ _ from hpo, bind_ok] at e6
  have EQ6 := Lib.hid e6
  clear e6 EQ3
  have HY5 := Lib.hid (And.intro hyl (hyo.mono (fun q hq => Nat.le_trans ST4.out.size hq) _))
  simp only [Hd.val] at hv
  subst hv
  have ST7 := Lib.hid (ST4.out.grow hr hg)
  clear hr hg ST4 hyl hyo hpo HC
  have hys8 : ∀ u ∈ [y5], u.Lies w5 ∧ u.On (fun q => (w.alloc boxZ).heap.size ≤ q) := (List.forall_mem_cons.2 ⟨HY5.out, (fun _ h => nomatch h)⟩)
  have ST8 : Hid (St S _ d _ (w5.alloc (.cells #[.int .i64 y5.h.k, .int .i64 y5.h.m, .int .i64 y5.h.f, .int .i64 y5.h.t, .slice y5.h.np y5.h.nn y5.h.nc, .slice y5.h.kp y5.h.kn y5.h.kc] 26)) _) := Lib.hid (ST7.out.newK [y5] (by simp) hys8)
  clear hys8
  go_wp2_with fail
  go_loopg [5] F (fun gk v5 wr => ∃ (ys : List Br) (i : Nat) (p5 : Option Addr) (c5 : Nat), v5 = .slice p5 ys.length c5 ∧ ys.length + gk ≤ F + 1 ∧ Hid (tot = (funL S F rec d gk (ys.map Br.pb) i).bind fun l n3 => (S.need [61] n3).bind fun _ n4 => (rec .exp d n4).bind fun e n5 => Out.ok (node 5 n n5 [x2] (l ++ [e])) n5) ∧ Hid (St S (w.alloc boxZ) d ⟨[], [], [], [(.slice p5 ys.length c5, ys)]⟩ wr i))
  case atStart => exact ⟨[y5], n5, _, _, rfl, by simp; omega, EQ6, ST8⟩
  case round =>
    obtain ⟨ys, i, p5, c5, rfl, hal, HL, STr⟩ := hrel
    cases gk with
    | zero => exact absurd HL.out (by intro e; exact HD.out e)
    | succ gk =>
    have hls := HL.out
    simp only [funL] at hls
    have EQr := Lib.hid hls
    clear hls HL
    cases hbg : S.begins [[95]] i
    · have e9 := EQr.out
      simp only [hbg, cond_false] at e9
      have EQ9 := Lib.hid e9
      clear e9 EQr
      have e10 := EQ9.out
      simp only [bind_ok] at e10
      have EQ10 := Lib.hid e10
      clear e10 EQ9
      have HP := Lib.hid (begins1 S (i) d ⟨#[95]⟩ _ STr.out.rd)
      simp only [hbg] at HP
      go_wp2_with fail
      refine HP.out.mono ?_
      rintro e w11 ⟨rfl, hb⟩
      have ST12 := Lib.hid (STr.out.below hb)
      clear hb STr HP
      have HC := Lib.hid (rneed_any S ((i)) d ⟨#[61]⟩ _ ST12.out.rd (by simp))
      go_wp2_with fail
      refine HC.out.mono ?_
      rintro e w13 (⟨x13, n13, v13, hpo, rfl, hv, hr, hg⟩ | ⟨ch, ho, rfl, hg⟩)
      rotate_left
      · exact ⟨rfl, Or.inr ⟨ch, by rw [EQ10.out]; exact pan_bind (ho), rfl, ST12.out.pan hg⟩⟩
      have e14 := EQ10.out
      rw [show _ = Out.ok _ _ from hpo, bind_ok] at e14
      have EQ14 := Lib.hid e14
      clear e14 EQ10
      obtain rfl : v13 = .tuple #[] := hv
      have ST15 := Lib.hid (ST12.out.grow hr hg)
      clear hr hg ST12 hpo HC
      have HC := Lib.hid (HS.out.exp ((n13)) _ ST15.out.rd (bind_dry (by rw [← EQ14.out]; exact HD.out)))
      go_wp2_with fail
      refine HC.out.mono ?_
      rintro e w16 (⟨x16, n16, v16, hpo, rfl, ⟨y16, hv, hyl, hyo, rfl⟩, hr, hg⟩ | ⟨ch, ho, rfl, hg⟩)
      rotate_left
      · exact ⟨rfl, Or.inr ⟨ch, by rw [EQ14.out]; exact pan_bind (ho), rfl, ST15.out.pan hg⟩⟩
      have e17 := EQ14.out
      rw [show _ = Out.ok _ _ from hpo, bind_ok] at e17
      have EQ17 := Lib.hid e17
      clear e17 EQ14
      have HY16 := Lib.hid (And.intro hyl (hyo.mono (fun q hq => Nat.le_trans ST15.out.size hq) _))
      simp only [Hd.val] at hv
      subst hv
      have HZ16 := Lib.hid (And.intro hyl (apart_of (ST15.out.ks (.slice p5 ys.length c5, ys) (by simp)).1 ST15.out.size hyo))
      have ST18 := Lib.hid (ST15.out.grow hr hg)
      clear hr hg ST15 hyl hyo hpo HC
      have HZ : Hid (∀ z ∈ [y16], z.Lies (w16.alloc (BC y16.h)) ∧ z.On (fun q => (w.alloc boxZ).heap.size ≤ q ∧ some q ≠ (.slice p5 ys.length c5 : Value).ownBlock)) := Lib.hid (List.forall_mem_cons.2 ⟨And.intro (HZ16.out.1.step _ ((Below.refl w16.heap.size w16).alloc (Nat.le_refl _) (BC y16.h))) HZ16.out.2, (fun _ h => nomatch h)⟩)
      have STa := Lib.hid (ST18.out.below ((Below.refl w16.heap.size w16).alloc (Nat.le_refl _) (BC y16.h)))
      clear ST18 HY16 HZ16
      go_wp2_with (at_builtin; refine wpList_appK rfl _ _ rfl STa (.slice p5 ys.length c5) ys [y16] (by simp) ys.length 1 1 rfl rfl ⟨w16.heap.size, 0, none⟩ rfl rfl news_one HZ.out (by omega) (by omega) ?_)
      intro g19 cp19 w19 ST19
      clear HZ STa
      have e20 := EQ17.out
      rw [show ys.map Br.pb ++ [y16.pb] = (ys ++ [y16]).map Br.pb by simp] at e20
      have EQ20 := Lib.hid e20
      clear e20 EQ17
      have ST21 : Hid (St S _ d _ (w19.alloc (.cells #[.int .i64 (x2 : Int)] 3)) _) := Lib.hid (ST19.out.newN [x2] (by simp))
      have HB := Lib.hid (rbranch_any S (n16) d 5 (n : Nat) (some ⟨w19.heap.size, 0, none⟩) 1 1 (some ⟨g19, 0, none⟩) (ys.length + 1) cp19 _ ST21.out.rd)
      go_wp2_with fail
      refine HB.out.mono ?_
      rintro e w22 ⟨rfl, hb⟩
      have ST23 := Lib.hid (ST21.out.below hb)
      clear hb ST21 HB
      have FIN := Lib.hid (ST23.out.fin (k := 5) (m := 0) (f := n) hgl hgwl (ST23.out.ns (.slice (some ⟨w19.heap.size, 0, none⟩) 1 1, [x2]) (by simp)) (ST23.out.ks (.slice (some ⟨g19, 0, none⟩) (ys.length + 1) cp19, (ys ++ [y16])) (by simp)) EQ20.out)
      clear ST23 EQ20
      have c0 := FIN.out.c0
      have c1 := FIN.out.c1
      have c2 := FIN.out.c2
      have c3 := FIN.out.c3
      have c4 := FIN.out.c4
      have c5 := FIN.out.c5
      have f0 := FIN.out.fz 0
      have f1 := FIN.out.fz 1
      have f2 := FIN.out.fz 2
      have f3 := FIN.out.fz 3
      have f4 := FIN.out.fz 4
      have f5 := FIN.out.fz 5
      go_wp2_with fail
      obtain ⟨_, _, _, _, _, _, _, d0, d1, d2, d3, d4, d5, hfin⟩ := FIN.out
      refine bodyPost_ret (by simp [results, Tryz.results83, go_sem, d0, d1, d2, d3, d4, d5, Result.andThen]; try rfl) rfl ?_
      exact hfin
    · have e9 := EQr.out
      simp only [hbg, cond_true] at e9
      have EQ9 := Lib.hid e9
      clear e9 EQr
      have HP := Lib.hid (begins1 S (i) d ⟨#[95]⟩ _ STr.out.rd)
      simp only [hbg] at HP
      go_wp2_with fail
      refine HP.out.mono ?_
      rintro e w10 ⟨rfl, hb⟩
      have ST11 := Lib.hid (STr.out.below hb)
      clear hb STr HP
      have HC := Lib.hid (atomicPat_any S F rec d HS.out hF0 ((i)) _ ST11.out.rd (bind_dry (bind_dry (by rw [← EQ9.out]; exact HD.out))))
      go_wp2_with fail
      refine HC.out.mono ?_
      rintro e w12 (⟨x12, n12, v12, hpo, rfl, ⟨y12, hv, hyl, hyo, rfl⟩, hr, hg⟩ | ⟨ch, ho, rfl, hg⟩)
      rotate_left
      · exact ⟨rfl, Or.inr ⟨ch, by rw [EQ9.out]; exact pan_bind (pan_bind (ho)), rfl, ST11.out.pan hg⟩⟩
      have e13 := EQ9.out
      rw [show _ = Out.ok _ _ from hpo, bind_ok] at e13
      have EQ13 := Lib.hid e13
      clear e13 EQ9
      have HY12 := Lib.hid (And.intro hyl (hyo.mono (fun q hq => Nat.le_trans ST11.out.size hq) _))
      simp only [Hd.val] at hv
      subst hv
      have HZ12 := Lib.hid (And.intro hyl (apart_of (ST11.out.ks (.slice p5 ys.length c5, ys) (by simp)).1 ST11.out.size hyo))
      have ST14 := Lib.hid (ST11.out.grow hr hg)
      clear hr hg ST11 hyl hyo hpo HC
      have HZ : Hid (∀ z ∈ [y12], z.Lies (w12.alloc (BC y12.h)) ∧ z.On (fun q => (w.alloc boxZ).heap.size ≤ q ∧ some q ≠ (.slice p5 ys.length c5 : Value).ownBlock)) := Lib.hid (List.forall_mem_cons.2 ⟨And.intro (HZ12.out.1.step _ ((Below.refl w12.heap.size w12).alloc (Nat.le_refl _) (BC y12.h))) HZ12.out.2, (fun _ h => nomatch h)⟩)
      have STa := Lib.hid (ST14.out.below ((Below.refl w12.heap.size w12).alloc (Nat.le_refl _) (BC y12.h)))
      clear ST14 HY12 HZ12
      go_wp2_with (at_builtin; refine wpList_appK rfl _ _ rfl STa (.slice p5 ys.length c5) ys [y12] (by simp) ys.length 1 1 rfl rfl ⟨w12.heap.size, 0, none⟩ rfl rfl news_one HZ.out (by omega) (by omega) ?_)
      intro g15 cp15 w15 ST15
      clear HZ STa
      go_wp2_with fail
      go_roundg gk
      case measure => omega
      case rel => exact ⟨ys ++ [y12], n12, _, _, by rw [List.length_append]; rfl, by simp only [List.length_append, List.length_cons, List.length_nil]; omega, Lib.hid (by have e := EQ13.out; simpa using e), Lib.hid (by have e := ST15.out; rw [show (ys ++ [y12]).length = ys.length + 1 by simp]; exact e)⟩
end Go.Proofs.YtkjgkchdkeggoaaGreatDoor

namespace Go.Proofs.YtkjgkchdkeggoaaGreatDoor
open Go.RowKit
set_option maxRecDepth 20000
set_option linter.unusedVariables false
set_option linter.unusedSimpArgs false

/-- What body gives: the mark, and a row of kids. -/
def RBd (w0 : World) : (Nat × List Pb) → Value → World → Prop := fun l v w' => ∃ (ys : List Br) (kv : Value), v = .tuple #[.int .i64 (l.1 : Int), kv] ∧ w'.ownsRow w0.heap.size 26 6 kv ys.length (cellsK ys) ∧ Kids w0.heap.size kv w' ys ∧ ys.map Br.pb = l.2 ∧ 1 ≤ ys.length ∧ ys.length ≤ 2
set_option maxHeartbeats 4000000 in
theorem body_any (S : Src) (F : Nat) (rec : Nt → Nat → Nat → Out Pb) (d : Nat) (hs : Said S rec d) (hF0 : F ≤ 1000000000) (n : Nat) (w : World) (h : Rd w S n d) (hdry : bodyO S rec d n ≠ .dry) :
    Calls Tryz.prog 111 #[.pointer (some ⟨S.g, 0, none⟩)] w fun e w' => Ends S d w (bodyO S rec d n) (RBd w) e w' := by
  have hgl := h.lt
  have hgwl := h.row
  have hbd := h.bound
  have ST0 := Lib.hid (St.initN h [] ((by simp)))
  have HS := Lib.hid hs
  have HCF := Lib.hid (colon_fin h.good h.here)
  obtain ⟨tot, htot⟩ : ∃ tot, tot = bodyO S rec d n := ⟨_, rfl⟩
  have HD : Hid (tot ≠ .dry) := Lib.hid (by rw [htot]; exact hdry)
  rw [← htot]
  unfold bodyO at htot
  have EQ0 := Lib.hid htot
  clear h hdry htot hs
  obtain ⟨mk, hmk⟩ : ∃ mk, mk = (S.colon n).1 := ⟨_, rfl⟩
  have HMK := Lib.hid hmk
  have e2 := EQ0.out
  rw [← hmk] at e2
  have EQ2 := Lib.hid e2
  clear e2 EQ0
  have HCL := Lib.hid (rcolon_any S n d w ST0.out.rd)
  rw [← hmk] at HCL
  have hcn := HCF.out
  rw [← hmk] at hcn
  clear hmk HMK HCF
  cases hm0 : mk == 0
  · have e3 := EQ2.out
    simp only [hm0, cond_false] at e3
    have EQ3 := Lib.hid e3
    clear e3 EQ2
    have hm : mk ≠ 0 := by simpa using hm0
    have hcn2 := hcn.2.2.1 hm
    rw [hcn2] at HCL
    have hmi : ((mk : Int) != 0) = true := by simpa using hm
    have hmi2 : ¬ (mk : Int) = 0 := by omega
    clear hcn
    go_enter Tryz.func111, Tryz.ntmps111
    go_wp2_with fail
    refine HCL.out.mono ?_
    rintro e w4 ⟨rfl, hr, hg⟩
    have ST5 := Lib.hid (ST0.out.grow hr hg)
    clear hr hg ST0 HCL
    have ST6 := Lib.hid (ST5.out.addK (v := .slice none 0 0) (ys := []) St.noK.1 St.noK.2)
    clear ST5
    have HC := Lib.hid (HS.out.sig ((n + 1)) _ ST6.out.rd (bind_dry (bind_dry (by rw [← EQ3.out]; exact HD.out))))
    go_wp2_with fail
    refine HC.out.mono ?_
    rintro e w7 (⟨x7, n7, v7, hpo, rfl, ⟨y7, hv, hyl, hyo, rfl⟩, hr, hg⟩ | ⟨ch, ho, rfl, hg⟩)
    rotate_left
    · exact ⟨rfl, Or.inr ⟨ch, by rw [EQ3.out]; exact pan_bind (pan_bind (ho)), rfl, grown_trans ST6.out.gr hg⟩⟩
    have e8 := EQ3.out
    rw [show _ = Out.ok _ _ from hpo, bind_ok] at e8
    have EQ8 := Lib.hid e8
    clear e8 EQ3
    have HY7 := Lib.hid (And.intro hyl (hyo.mono (fun q hq => Nat.le_trans ST6.out.size hq) _))
    simp only [Hd.val] at hv
    subst hv
    have HZ7 := Lib.hid (And.intro hyl (apart_of (ST6.out.ks (.slice none 0 0, []) (by simp)).1 ST6.out.size hyo))
    have ST9 := Lib.hid (ST6.out.grow hr hg)
    clear hr hg ST6 hyl hyo hpo HC
    have e10 := EQ8.out
    simp only [bind_ok] at e10
    have EQ10 := Lib.hid e10
    clear e10 EQ8
    have HZ : Hid (∀ z ∈ [y7], z.Lies (w7.alloc (BC y7.h)) ∧ z.On (fun q => w.heap.size ≤ q ∧ some q ≠ (.slice none 0 0 : Value).ownBlock)) := Lib.hid (List.forall_mem_cons.2 ⟨And.intro (HZ7.out.1.step _ ((Below.refl w7.heap.size w7).alloc (Nat.le_refl _) (BC y7.h))) HZ7.out.2, (fun _ h => nomatch h)⟩)
    have STa := Lib.hid (ST9.out.below ((Below.refl w7.heap.size w7).alloc (Nat.le_refl _) (BC y7.h)))
    clear ST9 HY7 HZ7
    go_wp2_with (at_builtin; refine wpList_appK rfl _ _ rfl STa (.slice none 0 0) [] [y7] (by simp) 0 1 1 rfl rfl ⟨w7.heap.size, 0, none⟩ rfl rfl news_one HZ.out (by omega) (by omega) ?_)
    intro g11 cp11 w11 ST11
    clear HZ STa
    have HC := Lib.hid (rneed_any S ((n7)) d ⟨#[61]⟩ _ ST11.out.rd (by simp))
    go_wp2_with fail
    refine HC.out.mono ?_
    rintro e w12 (⟨x12, n12, v12, hpo, rfl, hv, hr, hg⟩ | ⟨ch, ho, rfl, hg⟩)
    rotate_left
    · exact ⟨rfl, Or.inr ⟨ch, by rw [EQ10.out]; exact pan_bind (ho), rfl, grown_trans ST11.out.gr hg⟩⟩
    have e13 := EQ10.out
    rw [show _ = Out.ok _ _ from hpo, bind_ok] at e13
    have EQ13 := Lib.hid e13
    clear e13 EQ10
    obtain rfl : v12 = .tuple #[] := hv
    have ST14 := Lib.hid (ST11.out.grow hr hg)
    clear hr hg ST11 hpo HC
    have HC := Lib.hid (HS.out.str ((n12)) _ ST14.out.rd (bind_dry (by rw [← EQ13.out]; exact HD.out)))
    go_wp2_with fail
    refine HC.out.mono ?_
    rintro e w15 (⟨x15, n15, v15, hpo, rfl, ⟨y15, hv, hyl, hyo, rfl⟩, hr, hg⟩ | ⟨ch, ho, rfl, hg⟩)
    rotate_left
    · exact ⟨rfl, Or.inr ⟨ch, by rw [EQ13.out]; exact pan_bind (ho), rfl, grown_trans ST14.out.gr hg⟩⟩
    have e16 := EQ13.out
    rw [show _ = Out.ok _ _ from hpo, bind_ok] at e16
    have EQ16 := Lib.hid e16
    clear e16 EQ13
    have HY15 := Lib.hid (And.intro hyl (hyo.mono (fun q hq => Nat.le_trans ST14.out.size hq) _))
    simp only [Hd.val] at hv
    subst hv
    have HZ15 := Lib.hid (And.intro hyl (apart_of (ST14.out.ks (.slice (some ⟨g11, 0, none⟩) 1 cp11, ([] ++ [y7])) (by simp)).1 ST14.out.size hyo))
    have ST17 := Lib.hid (ST14.out.grow hr hg)
    clear hr hg ST14 hyl hyo hpo HC
    have HZ : Hid (∀ z ∈ [y15], z.Lies (w15.alloc (BC y15.h)) ∧ z.On (fun q => w.heap.size ≤ q ∧ some q ≠ (.slice (some ⟨g11, 0, none⟩) 1 cp11 : Value).ownBlock)) := Lib.hid (List.forall_mem_cons.2 ⟨And.intro (HZ15.out.1.step _ ((Below.refl w15.heap.size w15).alloc (Nat.le_refl _) (BC y15.h))) HZ15.out.2, (fun _ h => nomatch h)⟩)
    have STa := Lib.hid (ST17.out.below ((Below.refl w15.heap.size w15).alloc (Nat.le_refl _) (BC y15.h)))
    clear ST17 HY15 HZ15
    go_wp2_with (at_builtin; refine wpList_appK rfl _ _ rfl STa (.slice (some ⟨g11, 0, none⟩) 1 cp11) ([] ++ [y7]) [y15] (by simp) 1 1 1 rfl rfl ⟨w15.heap.size, 0, none⟩ rfl rfl news_one HZ.out (by omega) (by omega) ?_)
    intro g18 cp18 w18 ST18
    clear HZ STa
    go_wp2_with fail
    refine bodyPost_ret (by simp [results, Tryz.results111, go_sem, Result.andThen]; try rfl) rfl ?_
    exact Or.inl ⟨_, n15, _, EQ16.out, rfl, ⟨_, _, rfl, (ST18.out.ks _ (List.mem_singleton.2 rfl)).1, (ST18.out.ks _ (List.mem_singleton.2 rfl)).2, by simp, by simp, by simp⟩, ST18.out.rd, ST18.out.gr⟩
  · have e3 := EQ2.out
    simp only [hm0, cond_true] at e3
    have EQ3 := Lib.hid e3
    clear e3 EQ2
    have e4 := EQ3.out
    simp only [bind_ok] at e4
    have EQ4 := Lib.hid e4
    clear e4 EQ3
    have hm : mk = 0 := by simpa using hm0
    subst hm
    have hcn2 := hcn.2.2.2 rfl
    rw [hcn2] at HCL
    clear hcn
    go_enter Tryz.func111, Tryz.ntmps111
    go_wp2_with fail
    refine HCL.out.mono ?_
    rintro e w5 ⟨rfl, hr, hg⟩
    have ST6 := Lib.hid (ST0.out.grow hr hg)
    clear hr hg ST0 HCL
    have ST7 := Lib.hid (ST6.out.addK (v := .slice none 0 0) (ys := []) St.noK.1 St.noK.2)
    clear ST6
    have HC := Lib.hid (rneed_any S ((n)) d ⟨#[61]⟩ _ ST7.out.rd (by simp))
    go_wp2_with fail
    refine HC.out.mono ?_
    rintro e w8 (⟨x8, n8, v8, hpo, rfl, hv, hr, hg⟩ | ⟨ch, ho, rfl, hg⟩)
    rotate_left
    · exact ⟨rfl, Or.inr ⟨ch, by rw [EQ4.out]; exact pan_bind (ho), rfl, grown_trans ST7.out.gr hg⟩⟩
    have e9 := EQ4.out
    rw [show _ = Out.ok _ _ from hpo, bind_ok] at e9
    have EQ9 := Lib.hid e9
    clear e9 EQ4
    obtain rfl : v8 = .tuple #[] := hv
    have ST10 := Lib.hid (ST7.out.grow hr hg)
    clear hr hg ST7 hpo HC
    have HC := Lib.hid (HS.out.str ((n8)) _ ST10.out.rd (bind_dry (by rw [← EQ9.out]; exact HD.out)))
    go_wp2_with fail
    refine HC.out.mono ?_
    rintro e w11 (⟨x11, n11, v11, hpo, rfl, ⟨y11, hv, hyl, hyo, rfl⟩, hr, hg⟩ | ⟨ch, ho, rfl, hg⟩)
    rotate_left
    · exact ⟨rfl, Or.inr ⟨ch, by rw [EQ9.out]; exact pan_bind (ho), rfl, grown_trans ST10.out.gr hg⟩⟩
    have e12 := EQ9.out
    rw [show _ = Out.ok _ _ from hpo, bind_ok] at e12
    have EQ12 := Lib.hid e12
    clear e12 EQ9
    have HY11 := Lib.hid (And.intro hyl (hyo.mono (fun q hq => Nat.le_trans ST10.out.size hq) _))
    simp only [Hd.val] at hv
    subst hv
    have HZ11 := Lib.hid (And.intro hyl (apart_of (ST10.out.ks (.slice none 0 0, []) (by simp)).1 ST10.out.size hyo))
    have ST13 := Lib.hid (ST10.out.grow hr hg)
    clear hr hg ST10 hyl hyo hpo HC
    have HZ : Hid (∀ z ∈ [y11], z.Lies (w11.alloc (BC y11.h)) ∧ z.On (fun q => w.heap.size ≤ q ∧ some q ≠ (.slice none 0 0 : Value).ownBlock)) := Lib.hid (List.forall_mem_cons.2 ⟨And.intro (HZ11.out.1.step _ ((Below.refl w11.heap.size w11).alloc (Nat.le_refl _) (BC y11.h))) HZ11.out.2, (fun _ h => nomatch h)⟩)
    have STa := Lib.hid (ST13.out.below ((Below.refl w11.heap.size w11).alloc (Nat.le_refl _) (BC y11.h)))
    clear ST13 HY11 HZ11
    go_wp2_with (at_builtin; refine wpList_appK rfl _ _ rfl STa (.slice none 0 0) [] [y11] (by simp) 0 1 1 rfl rfl ⟨w11.heap.size, 0, none⟩ rfl rfl news_one HZ.out (by omega) (by omega) ?_)
    intro g14 cp14 w14 ST14
    clear HZ STa
    go_wp2_with fail
    refine bodyPost_ret (by simp [results, Tryz.results111, go_sem, Result.andThen]; try rfl) rfl ?_
    exact Or.inl ⟨_, n11, _, EQ12.out, rfl, ⟨_, _, rfl, (ST14.out.ks _ (List.mem_singleton.2 rfl)).1, (ST14.out.ks _ (List.mem_singleton.2 rfl)).2, by simp, by simp, by simp⟩, ST14.out.rd, ST14.out.gr⟩
end Go.Proofs.YtkjgkchdkeggoaaGreatDoor

namespace Go.Proofs.YtkjgkchdkeggoaaGreatDoor
open Go.RowKit
set_option maxRecDepth 20000
set_option linter.unusedVariables false
set_option linter.unusedSimpArgs false

set_option maxHeartbeats 1000000 in
theorem structure_any (S : Src) (F : Nat) (rec : Nt → Nat → Nat → Out Pb) (d : Nat) (hs : Said S rec d) (hF0 : F ≤ 1000000000) (fr : Nat) (n : Nat) (w : World) (h : Rd w S n d) (hdry : structureO S rec d fr n ≠ .dry) :
    Calls Tryz.prog 86 #[.pointer (some ⟨S.g, 0, none⟩), .int .i64 (fr : Int)] w fun e w' => Ends S d w (structureO S rec d fr n) (RB w) e w' := by
  have hgl := h.lt
  have hgwl := h.row
  have hbd := h.bound
  have ST0 := Lib.hid (St.init h [] ((by simp)))
  have HS := Lib.hid hs
  obtain ⟨tot, htot⟩ : ∃ tot, tot = structureO S rec d fr n := ⟨_, rfl⟩
  have HD : Hid (tot ≠ .dry) := Lib.hid (by rw [htot]; exact hdry)
  rw [← htot]
  unfold structureO at htot
  have EQ0 := Lib.hid htot
  clear h hdry htot hs
  go_enter Tryz.func86, Tryz.ntmps86
  have HC := Lib.hid (take1 S ((n)) d 7 (by decide) _ ST0.out.rd)
  rw [show (w.alloc boxZ).heap.size = w.heap.size + 1 by simp] at HC
  go_wp2_with fail
  refine HC.out.mono ?_
  rintro e w2 (⟨x2, n2, v2, hpo, rfl, hv, hr, hg⟩ | ⟨ch, ho, rfl, hg⟩)
  rotate_left
  · exact ⟨rfl, Or.inr ⟨ch, by rw [EQ0.out]; exact pan_bind (ho), rfl, ST0.out.pan hg⟩⟩
  have e3 := EQ0.out
  rw [show _ = Out.ok _ _ from hpo, bind_ok] at e3
  have EQ3 := Lib.hid e3
  clear e3 EQ0
  obtain rfl : v2 = .int .i64 (x2 : Int) := hv
  have ST4 := Lib.hid (ST0.out.grow hr hg)
  clear hr hg ST0 hpo HC
  have HC := Lib.hid (body_any S F rec d HS.out hF0 ((n2)) _ ST4.out.rd (bind_dry (by rw [← EQ3.out]; exact HD.out)))
  go_wp2_with fail
  refine HC.out.mono ?_
  rintro e w5 (⟨⟨mk5, lb5⟩, n5, v5, hpo, rfl, ⟨y5, kv, hv, hown, hkid, hmap, hl1, hl2⟩, hr, hg⟩ | ⟨ch, ho, rfl, hg⟩)
  rotate_left
  · exact ⟨rfl, Or.inr ⟨ch, by rw [EQ3.out]; exact pan_bind (ho), rfl, ST4.out.pan hg⟩⟩
  have e6 := EQ3.out
  rw [show _ = Out.ok _ _ from hpo, bind_ok] at e6
  have EQ6 := Lib.hid e6
  clear e6 EQ3
  simp only at hmap hv
  subst hmap
  subst hv
  have hz := ST4.out.size
  have ho := own_base hown hz
  have hkk := hkid.base hz
  obtain ⟨p5, cp5, hvf, _⟩ := own_pos hown (by omega)
  subst hvf
  have HLN := Lib.hid (And.intro hl1 hl2)
  have ST7 := Lib.hid ((ST4.out.grow hr hg).addK ho hkk)
  clear hr hg ST4 hown hkid ho hkk hz hpo HC hl1 hl2
  have e8 := EQ6.out
  dsimp only at e8
  have EQ8 := Lib.hid e8
  clear e8 EQ6
  have ST9 : Hid (St S _ d _ (w5.alloc (.cells #[.int .i64 (x2 : Int)] 3)) _) := Lib.hid (ST7.out.newN [x2] (by simp))
  have HB := Lib.hid (rbranch_any S (n5) d 10 (fr : Nat) (some ⟨w5.heap.size, 0, none⟩) 1 1 (some ⟨p5, 0, none⟩) y5.length cp5 _ ST9.out.rd)
  go_wp2_with fail
  refine HB.out.mono ?_
  rintro e w10 ⟨rfl, hb⟩
  have ST11 := Lib.hid (ST9.out.below hb)
  clear hb ST9 HB
  have HB := Lib.hid (rmarked_any (mk5 : Int) 10 0 (fr : Nat) (n5 : Nat) (some ⟨w5.heap.size, 0, none⟩) 1 1 (some ⟨p5, 0, none⟩) y5.length cp5 w10)
  go_wp2_with fail
  refine HB.out.mono ?_
  rintro e w12 ⟨rfl, hb⟩
  have ST13 := Lib.hid (ST11.out.below hb)
  clear hb ST11 HB
  have FIN := Lib.hid (ST13.out.fin (k := 10) (m := (mk5 : Int)) (f := fr) hgl hgwl (ST13.out.ns (.slice (some ⟨w5.heap.size, 0, none⟩) 1 1, [x2]) (by simp)) (ST13.out.ks (.slice (some ⟨p5, 0, none⟩) y5.length cp5, y5) (by simp)) EQ8.out)
  clear ST13 EQ8
  have c0 := FIN.out.c0
  have c1 := FIN.out.c1
  have c2 := FIN.out.c2
  have c3 := FIN.out.c3
  have c4 := FIN.out.c4
  have c5 := FIN.out.c5
  have f0 := FIN.out.fz 0
  have f1 := FIN.out.fz 1
  have f2 := FIN.out.fz 2
  have f3 := FIN.out.fz 3
  have f4 := FIN.out.fz 4
  have f5 := FIN.out.fz 5
  go_wp2_with fail
  obtain ⟨_, _, _, _, _, _, _, d0, d1, d2, d3, d4, d5, hfin⟩ := FIN.out
  refine bodyPost_ret (by simp [results, Tryz.results86, go_sem, d0, d1, d2, d3, d4, d5, Result.andThen]; try rfl) rfl ?_
  exact hfin
end Go.Proofs.YtkjgkchdkeggoaaGreatDoor

namespace Go.Proofs.YtkjgkchdkeggoaaGreatDoor
open Go.RowKit
set_option maxRecDepth 20000
set_option linter.unusedVariables false
set_option linter.unusedSimpArgs false

set_option maxHeartbeats 1000000 in
theorem functor_any (S : Src) (F : Nat) (rec : Nt → Nat → Nat → Out Pb) (d : Nat) (hs : Said S rec d) (hF0 : F ≤ 1000000000) (fr : Nat) (n : Nat) (w : World) (h : Rd w S n d) (hdry : functorO S rec d fr n ≠ .dry) :
    Calls Tryz.prog 87 #[.pointer (some ⟨S.g, 0, none⟩), .int .i64 (fr : Int)] w fun e w' => Ends S d w (functorO S rec d fr n) (RB w) e w' := by
  have hgl := h.lt
  have hgwl := h.row
  have hbd := h.bound
  have ST0 := Lib.hid (St.init h [] ((by simp)))
  have HS := Lib.hid hs
  obtain ⟨tot, htot⟩ : ∃ tot, tot = functorO S rec d fr n := ⟨_, rfl⟩
  have HD : Hid (tot ≠ .dry) := Lib.hid (by rw [htot]; exact hdry)
  rw [← htot]
  unfold functorO at htot
  have EQ0 := Lib.hid htot
  clear h hdry htot hs
  go_enter Tryz.func87, Tryz.ntmps87
  have HC := Lib.hid (take1 S ((n)) d 7 (by decide) _ ST0.out.rd)
  rw [show (w.alloc boxZ).heap.size = w.heap.size + 1 by simp] at HC
  go_wp2_with fail
  refine HC.out.mono ?_
  rintro e w2 (⟨x2, n2, v2, hpo, rfl, hv, hr, hg⟩ | ⟨ch, ho, rfl, hg⟩)
  rotate_left
  · exact ⟨rfl, Or.inr ⟨ch, by rw [EQ0.out]; exact pan_bind (ho), rfl, ST0.out.pan hg⟩⟩
  have e3 := EQ0.out
  rw [show _ = Out.ok _ _ from hpo, bind_ok] at e3
  have EQ3 := Lib.hid e3
  clear e3 EQ0
  obtain rfl : v2 = .int .i64 (x2 : Int) := hv
  have ST4 := Lib.hid (ST0.out.grow hr hg)
  clear hr hg ST0 hpo HC
  have HC := Lib.hid (rneed_any S ((n2)) d ⟨#[40]⟩ _ ST4.out.rd (by simp))
  go_wp2_with fail
  refine HC.out.mono ?_
  rintro e w5 (⟨x5, n5, v5, hpo, rfl, hv, hr, hg⟩ | ⟨ch, ho, rfl, hg⟩)
  rotate_left
  · exact ⟨rfl, Or.inr ⟨ch, by rw [EQ3.out]; exact pan_bind (ho), rfl, ST4.out.pan hg⟩⟩
  have e6 := EQ3.out
  rw [show _ = Out.ok _ _ from hpo, bind_ok] at e6
  have EQ6 := Lib.hid e6
  clear e6 EQ3
  obtain rfl : v5 = .tuple #[] := hv
  have ST7 := Lib.hid (ST4.out.grow hr hg)
  clear hr hg ST4 hpo HC
  have HC := Lib.hid (take1 S ((n5)) d 7 (by decide) _ ST7.out.rd)
  go_wp2_with fail
  refine HC.out.mono ?_
  rintro e w8 (⟨x8, n8, v8, hpo, rfl, hv, hr, hg⟩ | ⟨ch, ho, rfl, hg⟩)
  rotate_left
  · exact ⟨rfl, Or.inr ⟨ch, by rw [EQ6.out]; exact pan_bind (ho), rfl, ST7.out.pan hg⟩⟩
  have e9 := EQ6.out
  rw [show _ = Out.ok _ _ from hpo, bind_ok] at e9
  have EQ9 := Lib.hid e9
  clear e9 EQ6
  obtain rfl : v8 = .int .i64 (x8 : Int) := hv
  have ST10 := Lib.hid (ST7.out.grow hr hg)
  clear hr hg ST7 hpo HC
  have HC := Lib.hid (rneed_any S ((n8)) d ⟨#[58]⟩ _ ST10.out.rd (by simp))
  go_wp2_with fail
  refine HC.out.mono ?_
  rintro e w11 (⟨x11, n11, v11, hpo, rfl, hv, hr, hg⟩ | ⟨ch, ho, rfl, hg⟩)
  rotate_left
  · exact ⟨rfl, Or.inr ⟨ch, by rw [EQ9.out]; exact pan_bind (ho), rfl, ST10.out.pan hg⟩⟩
  have e12 := EQ9.out
  rw [show _ = Out.ok _ _ from hpo, bind_ok] at e12
  have EQ12 := Lib.hid e12
  clear e12 EQ9
  obtain rfl : v11 = .tuple #[] := hv
  have ST13 := Lib.hid (ST10.out.grow hr hg)
  clear hr hg ST10 hpo HC
  have HC := Lib.hid (HS.out.sig ((n11)) _ ST13.out.rd (bind_dry (by rw [← EQ12.out]; exact HD.out)))
  go_wp2_with fail
  refine HC.out.mono ?_
  rintro e w14 (⟨x14, n14, v14, hpo, rfl, ⟨y14, hv, hyl, hyo, rfl⟩, hr, hg⟩ | ⟨ch, ho, rfl, hg⟩)
  rotate_left
  · exact ⟨rfl, Or.inr ⟨ch, by rw [EQ12.out]; exact pan_bind (ho), rfl, ST13.out.pan hg⟩⟩
  have e15 := EQ12.out
  rw [show _ = Out.ok _ _ from hpo, bind_ok] at e15
  have EQ15 := Lib.hid e15
  clear e15 EQ12
  have HY14 := Lib.hid (And.intro hyl (hyo.mono (fun q hq => Nat.le_trans ST13.out.size hq) _))
  simp only [Hd.val] at hv
  subst hv
  have ST16 := Lib.hid (ST13.out.grow hr hg)
  clear hr hg ST13 hyl hyo hpo HC
  have hys17 : ∀ u ∈ [y14], u.Lies w14 ∧ u.On (fun q => (w.alloc boxZ).heap.size ≤ q) := (List.forall_mem_cons.2 ⟨HY14.out, (fun _ h => nomatch h)⟩)
  have ST17 : Hid (St S _ d _ (w14.alloc (.cells #[.int .i64 y14.h.k, .int .i64 y14.h.m, .int .i64 y14.h.f, .int .i64 y14.h.t, .slice y14.h.np y14.h.nn y14.h.nc, .slice y14.h.kp y14.h.kn y14.h.kc] 26)) _) := Lib.hid (ST16.out.newK [y14] (by simp) hys17)
  clear hys17
  have HC := Lib.hid (rneed_any S ((n14)) d ⟨#[41]⟩ _ ST17.out.rd (by simp))
  go_wp2_with fail
  refine HC.out.mono ?_
  rintro e w18 (⟨x18, n18, v18, hpo, rfl, hv, hr, hg⟩ | ⟨ch, ho, rfl, hg⟩)
  rotate_left
  · exact ⟨rfl, Or.inr ⟨ch, by rw [EQ15.out]; exact pan_bind (ho), rfl, ST17.out.pan hg⟩⟩
  have e19 := EQ15.out
  rw [show _ = Out.ok _ _ from hpo, bind_ok] at e19
  have EQ19 := Lib.hid e19
  clear e19 EQ15
  obtain rfl : v18 = .tuple #[] := hv
  have ST20 := Lib.hid (ST17.out.grow hr hg)
  clear hr hg ST17 hpo HC
  have HC := Lib.hid (body_any S F rec d HS.out hF0 ((n18)) _ ST20.out.rd (bind_dry (by rw [← EQ19.out]; exact HD.out)))
  go_wp2_with fail
  refine HC.out.mono ?_
  rintro e w21 (⟨⟨mk21, lb21⟩, n21, v21, hpo, rfl, ⟨y21, kv, hv, hown, hkid, hmap, hl1, hl2⟩, hr, hg⟩ | ⟨ch, ho, rfl, hg⟩)
  rotate_left
  · exact ⟨rfl, Or.inr ⟨ch, by rw [EQ19.out]; exact pan_bind (ho), rfl, ST20.out.pan hg⟩⟩
  have e22 := EQ19.out
  rw [show _ = Out.ok _ _ from hpo, bind_ok] at e22
  have EQ22 := Lib.hid e22
  clear e22 EQ19
  simp only at hmap hv
  subst hmap
  subst hv
  have hz := ST20.out.size
  have ho := own_base hown hz
  have hkk := hkid.base hz
  obtain ⟨p21, cp21, hvf, _⟩ := own_pos hown (by omega)
  subst hvf
  have HZ21 := Lib.hid (kids_apart (ST20.out.ks (.slice (some ⟨w14.heap.size, 0, none⟩) 1 1, [y14]) (by simp)).1 hz hkid)
  have HLN := Lib.hid (And.intro hl1 hl2)
  have ST23 := Lib.hid ((ST20.out.grow hr hg).addK ho hkk)
  clear hr hg ST20 hown hkid ho hkk hz hpo HC hl1 hl2
  have e24 := EQ22.out
  dsimp only at e24
  have EQ24 := Lib.hid e24
  clear e24 EQ22
  have ST25 : Hid (St S _ d _ (w21.alloc (.cells #[.int .i64 (x2 : Int), .int .i64 (x8 : Int)] 3)) _) := Lib.hid (ST23.out.newN [x2, x8] (by simp))
  have HZs := Lib.hid (fun z hz => And.intro ((HZ21.out z hz).1.step _ ((Below.refl w21.heap.size w21).alloc (Nat.le_refl _) (.cells #[.int .i64 (x2 : Int), .int .i64 (x8 : Int)] 3))) (HZ21.out z hz).2)
  clear HZ21
  have HZ21 := HZs
  clear HZs
  obtain ⟨hl1, hl2⟩ := HLN.out
  have HNW := Lib.hid (news_own (ST25.out.ks (.slice (some ⟨p21, 0, none⟩) y21.length cp21, y21) (by simp)).1)
  go_wp2_with (at_builtin; refine wpList_appK rfl _ _ rfl ST25 (.slice (some ⟨w14.heap.size, 0, none⟩) 1 1) [y14] y21 (by simp) 1 y21.length cp21 rfl rfl ⟨p21, 0, none⟩ rfl rfl HNW.out HZ21.out (by omega) (by omega) ?_)
  intro g26 cp26 w26 ST26
  clear HNW HZ21 ST25 hl1 hl2
  generalize 1 + y21.length = nl26 at *
  have HB := Lib.hid (rbranch_any S (n21) d 12 (fr : Nat) (some ⟨w21.heap.size, 0, none⟩) 2 2 (some ⟨g26, 0, none⟩) nl26 cp26 _ ST26.out.rd)
  go_wp2_with fail
  refine HB.out.mono ?_
  rintro e w27 ⟨rfl, hb⟩
  have ST28 := Lib.hid (ST26.out.below hb)
  clear hb ST26 HB
  have HB := Lib.hid (rmarked_any (mk21 : Int) 12 0 (fr : Nat) (n21 : Nat) (some ⟨w21.heap.size, 0, none⟩) 2 2 (some ⟨g26, 0, none⟩) nl26 cp26 w27)
  go_wp2_with fail
  refine HB.out.mono ?_
  rintro e w29 ⟨rfl, hb⟩
  have ST30 := Lib.hid (ST28.out.below hb)
  clear hb ST28 HB
  have FIN := Lib.hid (ST30.out.fin (k := 12) (m := (mk21 : Int)) (f := fr) hgl hgwl (ST30.out.ns (.slice (some ⟨w21.heap.size, 0, none⟩) 2 2, [x2, x8]) (by simp)) (ST30.out.ks (.slice (some ⟨g26, 0, none⟩) nl26 cp26, ([y14] ++ y21)) (by simp)) EQ24.out)
  clear ST30 EQ24
  have c0 := FIN.out.c0
  have c1 := FIN.out.c1
  have c2 := FIN.out.c2
  have c3 := FIN.out.c3
  have c4 := FIN.out.c4
  have c5 := FIN.out.c5
  have f0 := FIN.out.fz 0
  have f1 := FIN.out.fz 1
  have f2 := FIN.out.fz 2
  have f3 := FIN.out.fz 3
  have f4 := FIN.out.fz 4
  have f5 := FIN.out.fz 5
  go_wp2_with fail
  obtain ⟨_, _, _, _, _, _, _, d0, d1, d2, d3, d4, d5, hfin⟩ := FIN.out
  refine bodyPost_ret (by simp [results, Tryz.results87, go_sem, d0, d1, d2, d3, d4, d5, Result.andThen]; try rfl) rfl ?_
  exact hfin
end Go.Proofs.YtkjgkchdkeggoaaGreatDoor

namespace Go.Proofs.YtkjgkchdkeggoaaGreatDoor
open Go.RowKit
set_option maxRecDepth 20000
set_option linter.unusedVariables false
set_option linter.unusedSimpArgs false

theorem datatypesAll (S : Src) (F : Nat) (rec : Nt → Nat → Nat → Out Pb) (d : Nat) (hs : Said S rec d) (hF0 : F ≤ 1000000000) (fr n : Nat) (w : World) (h : Rd w S n d) (hdry : datatypesO S F rec d fr n ≠ .dry) :
    Calls Tryz.prog 85 #[.pointer (some ⟨S.g, 0, none⟩), .int .i64 (fr : Int)] w fun e w' => Ends S d w (datatypesO S F rec d fr n) (RB w) e w' :=
  datatypes_any S F rec d fr hF0 n w h (fun k w' hr hnd => dbind_any S F rec d hs hF0 (fun k w' hr hnd => typeName_any S F k d hF0 w' hr hnd) k w' hr hnd) hdry
set_option maxHeartbeats 4000000 in
theorem spec_any (S : Src) (F : Nat) (rec : Nt → Nat → Nat → Out Pb) (d : Nat) (hs : Said S rec d) (hF0 : F ≤ 1000000000) (n : Nat) (w : World) (h : Rd w S n d) (hdry : specO S F rec d n ≠ .dry) :
    Calls Tryz.prog 96 #[.pointer (some ⟨S.g, 0, none⟩)] w fun e w' => Ends S d w (specO S F rec d n) (RB w) e w' := by
  have hgl := h.lt
  have hgwl := h.row
  have hbd := h.bound
  have ST0 := Lib.hid (St.init h [] ((by simp)))
  have HS := Lib.hid hs
  obtain ⟨tot, htot⟩ : ∃ tot, tot = specO S F rec d n := ⟨_, rfl⟩
  have HD : Hid (tot ≠ .dry) := Lib.hid (by rw [htot]; exact hdry)
  rw [← htot]
  unfold specO at htot
  have EQ0 := Lib.hid htot
  clear h hdry htot hs
  cases h0 : S.is n [118, 97, 108]
  · have e2 := EQ0.out
    simp only [h0, cond_false] at e2
    have EQ2 := Lib.hid e2
    clear e2 EQ0
    cases h1 : S.is n [116, 121, 112, 101]
    · have e3 := EQ2.out
      simp only [h1, cond_false] at e3
      have EQ3 := Lib.hid e3
      clear e3 EQ2
      cases h2 : S.is n [100, 97, 116, 97, 116, 121, 112, 101]
      · have e4 := EQ3.out
        simp only [h2, cond_false] at e4
        have EQ4 := Lib.hid e4
        clear e4 EQ3
        cases h3 : S.is n [115, 116, 114, 117, 99, 116, 117, 114, 101]
        · have e5 := EQ4.out
          simp only [h3, cond_false] at e5
          have EQ5 := Lib.hid e5
          clear e5 EQ4
          go_enter Tryz.func96, Tryz.ntmps96
          have q2 := ST0.out.rd.c2
          have HP := Lib.hid (rpass_any S (n) d ⟨#[118, 97, 108]⟩ _ ST0.out.rd (by simp))
          simp only [h0, cond_true, cond_false] at HP
          go_wp2_with fail
          refine HP.out.mono ?_
          rintro e w6 ⟨rfl, hr, hg⟩
          have ST7 := Lib.hid (ST0.out.grow hr hg)
          clear hr hg ST0 HP
          clear q2
          have HP := Lib.hid (rpass_any S (n) d ⟨#[116, 121, 112, 101]⟩ _ ST7.out.rd (by simp))
          simp only [h1, cond_true, cond_false] at HP
          go_wp2_with fail
          refine HP.out.mono ?_
          rintro e w8 ⟨rfl, hr, hg⟩
          have ST9 := Lib.hid (ST7.out.grow hr hg)
          clear hr hg ST7 HP
          have HP := Lib.hid (rpass_any S (n) d ⟨#[100, 97, 116, 97, 116, 121, 112, 101]⟩ _ ST9.out.rd (by simp))
          simp only [h2, cond_true, cond_false] at HP
          go_wp2_with fail
          refine HP.out.mono ?_
          rintro e w10 ⟨rfl, hr, hg⟩
          have ST11 := Lib.hid (ST9.out.grow hr hg)
          clear hr hg ST9 HP
          have HP := Lib.hid (rpass_any S (n) d ⟨#[115, 116, 114, 117, 99, 116, 117, 114, 101]⟩ _ ST11.out.rd (by simp))
          simp only [h3, cond_true, cond_false] at HP
          go_wp2_with fail
          refine HP.out.mono ?_
          rintro e w12 ⟨rfl, hr, hg⟩
          have ST13 := Lib.hid (ST11.out.grow hr hg)
          clear hr hg ST11 HP
          have HC := Lib.hid (rneed_any S ((n)) d ⟨#[105, 110, 99, 108, 117, 100, 101]⟩ _ ST13.out.rd (by simp))
          go_wp2_with fail
          refine HC.out.mono ?_
          rintro e w14 (⟨x14, n14, v14, hpo, rfl, hv, hr, hg⟩ | ⟨ch, ho, rfl, hg⟩)
          rotate_left
          · exact ⟨rfl, Or.inr ⟨ch, by rw [EQ5.out]; exact pan_bind (ho), rfl, ST13.out.pan hg⟩⟩
          have e15 := EQ5.out
          rw [show _ = Out.ok _ _ from hpo, bind_ok] at e15
          have EQ15 := Lib.hid e15
          clear e15 EQ5
          obtain rfl : v14 = .tuple #[] := hv
          have ST16 := Lib.hid (ST13.out.grow hr hg)
          clear hr hg ST13 hpo HC
          have HC := Lib.hid (HS.out.sig ((n14)) _ ST16.out.rd (bind_dry (by rw [← EQ15.out]; exact HD.out)))
          go_wp2_with fail
          refine HC.out.mono ?_
          rintro e w17 (⟨x17, n17, v17, hpo, rfl, ⟨y17, hv, hyl, hyo, rfl⟩, hr, hg⟩ | ⟨ch, ho, rfl, hg⟩)
          rotate_left
          · exact ⟨rfl, Or.inr ⟨ch, by rw [EQ15.out]; exact pan_bind (ho), rfl, ST16.out.pan hg⟩⟩
          have e18 := EQ15.out
          rw [show _ = Out.ok _ _ from hpo, bind_ok] at e18
          have EQ18 := Lib.hid e18
          clear e18 EQ15
          have HY17 := Lib.hid (And.intro hyl (hyo.mono (fun q hq => Nat.le_trans ST16.out.size hq) _))
          simp only [Hd.val] at hv
          subst hv
          have ST19 := Lib.hid (ST16.out.grow hr hg)
          clear hr hg ST16 hyl hyo hpo HC
          have hys20 : ∀ u ∈ [y17], u.Lies w17 ∧ u.On (fun q => (w.alloc boxZ).heap.size ≤ q) := (List.forall_mem_cons.2 ⟨HY17.out, (fun _ h => nomatch h)⟩)
          have ST20 : Hid (St S _ d _ (w17.alloc (.cells #[.int .i64 y17.h.k, .int .i64 y17.h.m, .int .i64 y17.h.f, .int .i64 y17.h.t, .slice y17.h.np y17.h.nn y17.h.nc, .slice y17.h.kp y17.h.kn y17.h.kc] 26)) _) := Lib.hid (ST19.out.newK [y17] (by simp) hys20)
          clear hys20
          have HB := Lib.hid (rbranch_any S (n17) d 25 (n : Nat) none 0 0 (some ⟨w17.heap.size, 0, none⟩) 1 1 _ ST20.out.rd)
          go_wp2_with fail
          refine HB.out.mono ?_
          rintro e w21 ⟨rfl, hb⟩
          have ST22 := Lib.hid (ST20.out.below hb)
          clear hb ST20 HB
          have FIN := Lib.hid (ST22.out.fin (k := 25) (m := 0) (f := n) hgl hgwl St.noN (ST22.out.ks (.slice (some ⟨w17.heap.size, 0, none⟩) 1 1, [y17]) (by simp)) EQ18.out)
          clear ST22 EQ18
          have c0 := FIN.out.c0
          have c1 := FIN.out.c1
          have c2 := FIN.out.c2
          have c3 := FIN.out.c3
          have c4 := FIN.out.c4
          have c5 := FIN.out.c5
          have f0 := FIN.out.fz 0
          have f1 := FIN.out.fz 1
          have f2 := FIN.out.fz 2
          have f3 := FIN.out.fz 3
          have f4 := FIN.out.fz 4
          have f5 := FIN.out.fz 5
          go_wp2_with fail
          obtain ⟨_, _, _, _, _, _, _, d0, d1, d2, d3, d4, d5, hfin⟩ := FIN.out
          refine bodyPost_ret (by simp [results, Tryz.results96, go_sem, d0, d1, d2, d3, d4, d5, Result.andThen]; try rfl) rfl ?_
          exact hfin
        · have e5 := EQ4.out
          simp only [h3, cond_true] at e5
          have EQ5 := Lib.hid e5
          clear e5 EQ4
          go_enter Tryz.func96, Tryz.ntmps96
          have q2 := ST0.out.rd.c2
          have HP := Lib.hid (rpass_any S (n) d ⟨#[118, 97, 108]⟩ _ ST0.out.rd (by simp))
          simp only [h0, cond_true, cond_false] at HP
          go_wp2_with fail
          refine HP.out.mono ?_
          rintro e w6 ⟨rfl, hr, hg⟩
          have ST7 := Lib.hid (ST0.out.grow hr hg)
          clear hr hg ST0 HP
          clear q2
          have HP := Lib.hid (rpass_any S (n) d ⟨#[116, 121, 112, 101]⟩ _ ST7.out.rd (by simp))
          simp only [h1, cond_true, cond_false] at HP
          go_wp2_with fail
          refine HP.out.mono ?_
          rintro e w8 ⟨rfl, hr, hg⟩
          have ST9 := Lib.hid (ST7.out.grow hr hg)
          clear hr hg ST7 HP
          have HP := Lib.hid (rpass_any S (n) d ⟨#[100, 97, 116, 97, 116, 121, 112, 101]⟩ _ ST9.out.rd (by simp))
          simp only [h2, cond_true, cond_false] at HP
          go_wp2_with fail
          refine HP.out.mono ?_
          rintro e w10 ⟨rfl, hr, hg⟩
          have ST11 := Lib.hid (ST9.out.grow hr hg)
          clear hr hg ST9 HP
          have HP := Lib.hid (rpass_any S (n) d ⟨#[115, 116, 114, 117, 99, 116, 117, 114, 101]⟩ _ ST11.out.rd (by simp))
          simp only [h3, cond_true, cond_false] at HP
          go_wp2_with fail
          refine HP.out.mono ?_
          rintro e w12 ⟨rfl, hr, hg⟩
          have ST13 := Lib.hid (ST11.out.grow hr hg)
          clear hr hg ST11 HP
          have HC := Lib.hid (take1 S ((n + 1)) d 7 (by decide) _ ST13.out.rd)
          go_wp2_with fail
          refine HC.out.mono ?_
          rintro e w14 (⟨x14, n14, v14, hpo, rfl, hv, hr, hg⟩ | ⟨ch, ho, rfl, hg⟩)
          rotate_left
          · exact ⟨rfl, Or.inr ⟨ch, by rw [EQ5.out]; exact pan_bind (ho), rfl, ST13.out.pan hg⟩⟩
          have e15 := EQ5.out
          rw [show _ = Out.ok _ _ from hpo, bind_ok] at e15
          have EQ15 := Lib.hid e15
          clear e15 EQ5
          obtain rfl : v14 = .int .i64 (x14 : Int) := hv
          have ST16 := Lib.hid (ST13.out.grow hr hg)
          clear hr hg ST13 hpo HC
          have HC := Lib.hid (rneed_any S ((n14)) d ⟨#[58]⟩ _ ST16.out.rd (by simp))
          go_wp2_with fail
          refine HC.out.mono ?_
          rintro e w17 (⟨x17, n17, v17, hpo, rfl, hv, hr, hg⟩ | ⟨ch, ho, rfl, hg⟩)
          rotate_left
          · exact ⟨rfl, Or.inr ⟨ch, by rw [EQ15.out]; exact pan_bind (ho), rfl, ST16.out.pan hg⟩⟩
          have e18 := EQ15.out
          rw [show _ = Out.ok _ _ from hpo, bind_ok] at e18
          have EQ18 := Lib.hid e18
          clear e18 EQ15
          obtain rfl : v17 = .tuple #[] := hv
          have ST19 := Lib.hid (ST16.out.grow hr hg)
          clear hr hg ST16 hpo HC
          have ST20 : Hid (St S _ d _ (w17.alloc (.cells #[.int .i64 (x14 : Int)] 3)) _) := Lib.hid (ST19.out.newN [x14] (by simp))
          have HC := Lib.hid (HS.out.sig ((n17)) _ ST20.out.rd (bind_dry (by rw [← EQ18.out]; exact HD.out)))
          go_wp2_with fail
          refine HC.out.mono ?_
          rintro e w21 (⟨x21, n21, v21, hpo, rfl, ⟨y21, hv, hyl, hyo, rfl⟩, hr, hg⟩ | ⟨ch, ho, rfl, hg⟩)
          rotate_left
          · exact ⟨rfl, Or.inr ⟨ch, by rw [EQ18.out]; exact pan_bind (ho), rfl, ST20.out.pan hg⟩⟩
          have e22 := EQ18.out
          rw [show _ = Out.ok _ _ from hpo, bind_ok] at e22
          have EQ22 := Lib.hid e22
          clear e22 EQ18
          have HY21 := Lib.hid (And.intro hyl (hyo.mono (fun q hq => Nat.le_trans ST20.out.size hq) _))
          simp only [Hd.val] at hv
          subst hv
          have ST23 := Lib.hid (ST20.out.grow hr hg)
          clear hr hg ST20 hyl hyo hpo HC
          have hys24 : ∀ u ∈ [y21], u.Lies w21 ∧ u.On (fun q => (w.alloc boxZ).heap.size ≤ q) := (List.forall_mem_cons.2 ⟨HY21.out, (fun _ h => nomatch h)⟩)
          have ST24 : Hid (St S _ d _ (w21.alloc (.cells #[.int .i64 y21.h.k, .int .i64 y21.h.m, .int .i64 y21.h.f, .int .i64 y21.h.t, .slice y21.h.np y21.h.nn y21.h.nc, .slice y21.h.kp y21.h.kn y21.h.kc] 26)) _) := Lib.hid (ST23.out.newK [y21] (by simp) hys24)
          clear hys24
          have HB := Lib.hid (rbranch_any S (n21) d 24 (n : Nat) (some ⟨w17.heap.size, 0, none⟩) 1 1 (some ⟨w21.heap.size, 0, none⟩) 1 1 _ ST24.out.rd)
          go_wp2_with fail
          refine HB.out.mono ?_
          rintro e w25 ⟨rfl, hb⟩
          have ST26 := Lib.hid (ST24.out.below hb)
          clear hb ST24 HB
          have FIN := Lib.hid (ST26.out.fin (k := 24) (m := 0) (f := n) hgl hgwl (ST26.out.ns (.slice (some ⟨w17.heap.size, 0, none⟩) 1 1, [x14]) (by simp)) (ST26.out.ks (.slice (some ⟨w21.heap.size, 0, none⟩) 1 1, [y21]) (by simp)) EQ22.out)
          clear ST26 EQ22
          have c0 := FIN.out.c0
          have c1 := FIN.out.c1
          have c2 := FIN.out.c2
          have c3 := FIN.out.c3
          have c4 := FIN.out.c4
          have c5 := FIN.out.c5
          have f0 := FIN.out.fz 0
          have f1 := FIN.out.fz 1
          have f2 := FIN.out.fz 2
          have f3 := FIN.out.fz 3
          have f4 := FIN.out.fz 4
          have f5 := FIN.out.fz 5
          go_wp2_with fail
          obtain ⟨_, _, _, _, _, _, _, d0, d1, d2, d3, d4, d5, hfin⟩ := FIN.out
          refine bodyPost_ret (by simp [results, Tryz.results96, go_sem, d0, d1, d2, d3, d4, d5, Result.andThen]; try rfl) rfl ?_
          exact hfin
      · have e4 := EQ3.out
        simp only [h2, cond_true] at e4
        have EQ4 := Lib.hid e4
        clear e4 EQ3
        go_enter Tryz.func96, Tryz.ntmps96
        have q2 := ST0.out.rd.c2
        have HP := Lib.hid (rpass_any S (n) d ⟨#[118, 97, 108]⟩ _ ST0.out.rd (by simp))
        simp only [h0, cond_true, cond_false] at HP
        go_wp2_with fail
        refine HP.out.mono ?_
        rintro e w5 ⟨rfl, hr, hg⟩
        have ST6 := Lib.hid (ST0.out.grow hr hg)
        clear hr hg ST0 HP
        clear q2
        have HP := Lib.hid (rpass_any S (n) d ⟨#[116, 121, 112, 101]⟩ _ ST6.out.rd (by simp))
        simp only [h1, cond_true, cond_false] at HP
        go_wp2_with fail
        refine HP.out.mono ?_
        rintro e w7 ⟨rfl, hr, hg⟩
        have ST8 := Lib.hid (ST6.out.grow hr hg)
        clear hr hg ST6 HP
        have HP := Lib.hid (rpass_any S (n) d ⟨#[100, 97, 116, 97, 116, 121, 112, 101]⟩ _ ST8.out.rd (by simp))
        simp only [h2, cond_true, cond_false] at HP
        go_wp2_with fail
        refine HP.out.mono ?_
        rintro e w9 ⟨rfl, hr, hg⟩
        have ST10 := Lib.hid (ST8.out.grow hr hg)
        clear hr hg ST8 HP
        have HC := Lib.hid (datatypesAll S F rec d HS.out hF0 n ((n + 1)) _ ST10.out.rd (by rw [← EQ4.out]; exact HD.out))
        go_wp2_with fail
        refine HC.out.mono ?_
        rintro e w11 (⟨x11, n11, v11, hpo, rfl, ⟨y11, hv, hyl, hyo, rfl⟩, hr, hg⟩ | ⟨ch, ho, rfl, hg⟩)
        rotate_left
        · exact ⟨rfl, Or.inr ⟨ch, by rw [EQ4.out]; exact ho, rfl, ST10.out.pan hg⟩⟩
        have EQ12 := Lib.hid (EQ4.out.trans hpo)
        clear EQ4
        have HY11 := Lib.hid (And.intro hyl (hyo.mono (fun q hq => Nat.le_trans ST10.out.size hq) _))
        simp only [Hd.val] at hv
        subst hv
        have ST13 := Lib.hid (ST10.out.grow hr hg)
        clear hr hg ST10 hyl hyo hpo HC
        have FIN := Lib.hid (ST13.out.finY hgl hgwl HY11.out.1 HY11.out.2 EQ12.out)
        clear ST13 HY11 EQ12
        have c0 := FIN.out.c0
        have c1 := FIN.out.c1
        have c2 := FIN.out.c2
        have c3 := FIN.out.c3
        have c4 := FIN.out.c4
        have c5 := FIN.out.c5
        have f0 := FIN.out.fz 0
        have f1 := FIN.out.fz 1
        have f2 := FIN.out.fz 2
        have f3 := FIN.out.fz 3
        have f4 := FIN.out.fz 4
        have f5 := FIN.out.fz 5
        go_wp2_with fail
        obtain ⟨_, _, _, _, _, _, _, d0, d1, d2, d3, d4, d5, hfin⟩ := FIN.out
        refine bodyPost_ret (by simp [results, Tryz.results96, go_sem, d0, d1, d2, d3, d4, d5, Result.andThen]; try rfl) rfl ?_
        exact hfin
    · have e3 := EQ2.out
      simp only [h1, cond_true] at e3
      have EQ3 := Lib.hid e3
      clear e3 EQ2
      go_enter Tryz.func96, Tryz.ntmps96
      have q2 := ST0.out.rd.c2
      have HP := Lib.hid (rpass_any S (n) d ⟨#[118, 97, 108]⟩ _ ST0.out.rd (by simp))
      simp only [h0, cond_true, cond_false] at HP
      go_wp2_with fail
      refine HP.out.mono ?_
      rintro e w4 ⟨rfl, hr, hg⟩
      have ST5 := Lib.hid (ST0.out.grow hr hg)
      clear hr hg ST0 HP
      clear q2
      have HP := Lib.hid (rpass_any S (n) d ⟨#[116, 121, 112, 101]⟩ _ ST5.out.rd (by simp))
      simp only [h1, cond_true, cond_false] at HP
      go_wp2_with fail
      refine HP.out.mono ?_
      rintro e w6 ⟨rfl, hr, hg⟩
      have ST7 := Lib.hid (ST5.out.grow hr hg)
      clear hr hg ST5 HP
      have HC := Lib.hid (typeName_any S F ((n + 1)) d hF0 _ ST7.out.rd (bind_dry (by rw [← EQ3.out]; exact HD.out)))
      go_wp2_with fail
      refine HC.out.mono ?_
      rintro e w8 (⟨x8, n8, v8, hpo, rfl, hv, hr, hg⟩ | ⟨ch, ho, rfl, hg⟩)
      rotate_left
      · exact ⟨rfl, Or.inr ⟨ch, by rw [EQ3.out]; exact pan_bind (ho), rfl, ST7.out.pan hg⟩⟩
      have e9 := EQ3.out
      rw [show _ = Out.ok _ _ from hpo, bind_ok] at e9
      have EQ9 := Lib.hid e9
      clear e9 EQ3
      have hz := ST7.out.size
      have ho := own_base hv hz
      obtain ⟨p8, cp8, rfl⟩ := own_form hv
      have ST10 := Lib.hid ((ST7.out.grow hr hg).addN (l := [x8]) ho)
      clear hr hg ST7 hv ho hz hpo HC
      cases heq : S.is n8 [61]
      · have e11 := EQ9.out
        simp only [heq, cond_false] at e11
        have EQ11 := Lib.hid e11
        clear e11 EQ9
        have HP := Lib.hid (rpass_any S (n8) d ⟨#[61]⟩ _ ST10.out.rd (by simp))
        simp only [heq, cond_true, cond_false] at HP
        go_wp2_with fail
        refine HP.out.mono ?_
        rintro e w12 ⟨rfl, hr, hg⟩
        have ST13 := Lib.hid (ST10.out.grow hr hg)
        clear hr hg ST10 HP
        have HB := Lib.hid (rbranch_any S (n8) d 23 (n : Nat) p8 1 cp8 none 0 0 _ ST13.out.rd)
        go_wp2_with fail
        refine HB.out.mono ?_
        rintro e w14 ⟨rfl, hb⟩
        have ST15 := Lib.hid (ST13.out.below hb)
        clear hb ST13 HB
        have FIN := Lib.hid (ST15.out.fin (k := 23) (m := 0) (f := n) hgl hgwl (ST15.out.ns (.slice p8 1 cp8, [x8]) (by simp)) St.noK EQ11.out)
        clear ST15 EQ11
        have c0 := FIN.out.c0
        have c1 := FIN.out.c1
        have c2 := FIN.out.c2
        have c3 := FIN.out.c3
        have c4 := FIN.out.c4
        have c5 := FIN.out.c5
        have f0 := FIN.out.fz 0
        have f1 := FIN.out.fz 1
        have f2 := FIN.out.fz 2
        have f3 := FIN.out.fz 3
        have f4 := FIN.out.fz 4
        have f5 := FIN.out.fz 5
        go_wp2_with fail
        obtain ⟨_, _, _, _, _, _, _, d0, d1, d2, d3, d4, d5, hfin⟩ := FIN.out
        refine bodyPost_ret (by simp [results, Tryz.results96, go_sem, d0, d1, d2, d3, d4, d5, Result.andThen]; try rfl) rfl ?_
        exact hfin
      · have e11 := EQ9.out
        simp only [heq, cond_true] at e11
        have EQ11 := Lib.hid e11
        clear e11 EQ9
        have HP := Lib.hid (rpass_any S (n8) d ⟨#[61]⟩ _ ST10.out.rd (by simp))
        simp only [heq, cond_true, cond_false] at HP
        go_wp2_with fail
        refine HP.out.mono ?_
        rintro e w12 ⟨rfl, hr, hg⟩
        have ST13 := Lib.hid (ST10.out.grow hr hg)
        clear hr hg ST10 HP
        have HC := Lib.hid (HS.out.ty ((n8 + 1)) _ ST13.out.rd (bind_dry (by rw [← EQ11.out]; exact HD.out)))
        go_wp2_with fail
        refine HC.out.mono ?_
        rintro e w14 (⟨x14, n14, v14, hpo, rfl, ⟨y14, hv, hyl, hyo, rfl⟩, hr, hg⟩ | ⟨ch, ho, rfl, hg⟩)
        rotate_left
        · exact ⟨rfl, Or.inr ⟨ch, by rw [EQ11.out]; exact pan_bind (ho), rfl, ST13.out.pan hg⟩⟩
        have e15 := EQ11.out
        rw [show _ = Out.ok _ _ from hpo, bind_ok] at e15
        have EQ15 := Lib.hid e15
        clear e15 EQ11
        have HY14 := Lib.hid (And.intro hyl (hyo.mono (fun q hq => Nat.le_trans ST13.out.size hq) _))
        simp only [Hd.val] at hv
        subst hv
        have ST16 := Lib.hid (ST13.out.grow hr hg)
        clear hr hg ST13 hyl hyo hpo HC
        have hys17 : ∀ u ∈ [y14], u.Lies w14 ∧ u.On (fun q => (w.alloc boxZ).heap.size ≤ q) := (List.forall_mem_cons.2 ⟨HY14.out, (fun _ h => nomatch h)⟩)
        have ST17 : Hid (St S _ d _ (w14.alloc (.cells #[.int .i64 y14.h.k, .int .i64 y14.h.m, .int .i64 y14.h.f, .int .i64 y14.h.t, .slice y14.h.np y14.h.nn y14.h.nc, .slice y14.h.kp y14.h.kn y14.h.kc] 26)) _) := Lib.hid (ST16.out.newK [y14] (by simp) hys17)
        clear hys17
        have HB := Lib.hid (rbranch_any S (n14) d 23 (n : Nat) p8 1 cp8 (some ⟨w14.heap.size, 0, none⟩) 1 1 _ ST17.out.rd)
        go_wp2_with fail
        refine HB.out.mono ?_
        rintro e w18 ⟨rfl, hb⟩
        have ST19 := Lib.hid (ST17.out.below hb)
        clear hb ST17 HB
        have FIN := Lib.hid (ST19.out.fin (k := 23) (m := 0) (f := n) hgl hgwl (ST19.out.ns (.slice p8 1 cp8, [x8]) (by simp)) (ST19.out.ks (.slice (some ⟨w14.heap.size, 0, none⟩) 1 1, [y14]) (by simp)) EQ15.out)
        clear ST19 EQ15
        have c0 := FIN.out.c0
        have c1 := FIN.out.c1
        have c2 := FIN.out.c2
        have c3 := FIN.out.c3
        have c4 := FIN.out.c4
        have c5 := FIN.out.c5
        have f0 := FIN.out.fz 0
        have f1 := FIN.out.fz 1
        have f2 := FIN.out.fz 2
        have f3 := FIN.out.fz 3
        have f4 := FIN.out.fz 4
        have f5 := FIN.out.fz 5
        go_wp2_with fail
        obtain ⟨_, _, _, _, _, _, _, d0, d1, d2, d3, d4, d5, hfin⟩ := FIN.out
        refine bodyPost_ret (by simp [results, Tryz.results96, go_sem, d0, d1, d2, d3, d4, d5, Result.andThen]; try rfl) rfl ?_
        exact hfin
  · have e2 := EQ0.out
    simp only [h0, cond_true] at e2
    have EQ2 := Lib.hid e2
    clear e2 EQ0
    go_enter Tryz.func96, Tryz.ntmps96
    have q2 := ST0.out.rd.c2
    have HP := Lib.hid (rpass_any S (n) d ⟨#[118, 97, 108]⟩ _ ST0.out.rd (by simp))
    simp only [h0, cond_true, cond_false] at HP
    go_wp2_with fail
    refine HP.out.mono ?_
    rintro e w3 ⟨rfl, hr, hg⟩
    have ST4 := Lib.hid (ST0.out.grow hr hg)
    clear hr hg ST0 HP
    clear q2
    have HC := Lib.hid (rvalue_any S ((n + 1)) d _ ST4.out.rd)
    go_wp2_with fail
    refine HC.out.mono ?_
    rintro e w5 (⟨x5, n5, v5, hpo, rfl, hv, hr, hg⟩ | ⟨ch, ho, rfl, hg⟩)
    rotate_left
    · exact ⟨rfl, Or.inr ⟨ch, by rw [EQ2.out]; exact pan_bind (ho), rfl, ST4.out.pan hg⟩⟩
    have e6 := EQ2.out
    rw [show _ = Out.ok _ _ from hpo, bind_ok] at e6
    have EQ6 := Lib.hid e6
    clear e6 EQ2
    obtain rfl : v5 = .int .i64 (x5 : Int) := hv
    have ST7 := Lib.hid (ST4.out.grow hr hg)
    clear hr hg ST4 hpo HC
    have HC := Lib.hid (rneed_any S ((n5)) d ⟨#[58]⟩ _ ST7.out.rd (by simp))
    go_wp2_with fail
    refine HC.out.mono ?_
    rintro e w8 (⟨x8, n8, v8, hpo, rfl, hv, hr, hg⟩ | ⟨ch, ho, rfl, hg⟩)
    rotate_left
    · exact ⟨rfl, Or.inr ⟨ch, by rw [EQ6.out]; exact pan_bind (ho), rfl, ST7.out.pan hg⟩⟩
    have e9 := EQ6.out
    rw [show _ = Out.ok _ _ from hpo, bind_ok] at e9
    have EQ9 := Lib.hid e9
    clear e9 EQ6
    obtain rfl : v8 = .tuple #[] := hv
    have ST10 := Lib.hid (ST7.out.grow hr hg)
    clear hr hg ST7 hpo HC
    have ST11 : Hid (St S _ d _ (w8.alloc (.cells #[.int .i64 (x5 : Int)] 3)) _) := Lib.hid (ST10.out.newN [x5] (by simp))
    have HC := Lib.hid (HS.out.ty ((n8)) _ ST11.out.rd (bind_dry (by rw [← EQ9.out]; exact HD.out)))
    go_wp2_with fail
    refine HC.out.mono ?_
    rintro e w12 (⟨x12, n12, v12, hpo, rfl, ⟨y12, hv, hyl, hyo, rfl⟩, hr, hg⟩ | ⟨ch, ho, rfl, hg⟩)
    rotate_left
    · exact ⟨rfl, Or.inr ⟨ch, by rw [EQ9.out]; exact pan_bind (ho), rfl, ST11.out.pan hg⟩⟩
    have e13 := EQ9.out
    rw [show _ = Out.ok _ _ from hpo, bind_ok] at e13
    have EQ13 := Lib.hid e13
    clear e13 EQ9
    have HY12 := Lib.hid (And.intro hyl (hyo.mono (fun q hq => Nat.le_trans ST11.out.size hq) _))
    simp only [Hd.val] at hv
    subst hv
    have ST14 := Lib.hid (ST11.out.grow hr hg)
    clear hr hg ST11 hyl hyo hpo HC
    have hys15 : ∀ u ∈ [y12], u.Lies w12 ∧ u.On (fun q => (w.alloc boxZ).heap.size ≤ q) := (List.forall_mem_cons.2 ⟨HY12.out, (fun _ h => nomatch h)⟩)
    have ST15 : Hid (St S _ d _ (w12.alloc (.cells #[.int .i64 y12.h.k, .int .i64 y12.h.m, .int .i64 y12.h.f, .int .i64 y12.h.t, .slice y12.h.np y12.h.nn y12.h.nc, .slice y12.h.kp y12.h.kn y12.h.kc] 26)) _) := Lib.hid (ST14.out.newK [y12] (by simp) hys15)
    clear hys15
    have HB := Lib.hid (rbranch_any S (n12) d 22 (n : Nat) (some ⟨w8.heap.size, 0, none⟩) 1 1 (some ⟨w12.heap.size, 0, none⟩) 1 1 _ ST15.out.rd)
    go_wp2_with fail
    refine HB.out.mono ?_
    rintro e w16 ⟨rfl, hb⟩
    have ST17 := Lib.hid (ST15.out.below hb)
    clear hb ST15 HB
    have FIN := Lib.hid (ST17.out.fin (k := 22) (m := 0) (f := n) hgl hgwl (ST17.out.ns (.slice (some ⟨w8.heap.size, 0, none⟩) 1 1, [x5]) (by simp)) (ST17.out.ks (.slice (some ⟨w12.heap.size, 0, none⟩) 1 1, [y12]) (by simp)) EQ13.out)
    clear ST17 EQ13
    have c0 := FIN.out.c0
    have c1 := FIN.out.c1
    have c2 := FIN.out.c2
    have c3 := FIN.out.c3
    have c4 := FIN.out.c4
    have c5 := FIN.out.c5
    have f0 := FIN.out.fz 0
    have f1 := FIN.out.fz 1
    have f2 := FIN.out.fz 2
    have f3 := FIN.out.fz 3
    have f4 := FIN.out.fz 4
    have f5 := FIN.out.fz 5
    go_wp2_with fail
    obtain ⟨_, _, _, _, _, _, _, d0, d1, d2, d3, d4, d5, hfin⟩ := FIN.out
    refine bodyPost_ret (by simp [results, Tryz.results96, go_sem, d0, d1, d2, d3, d4, d5, Result.andThen]; try rfl) rfl ?_
    exact hfin
end Go.Proofs.YtkjgkchdkeggoaaGreatDoor
