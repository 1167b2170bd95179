/-
  The reader's tuple.; The reader's plain.; The reader's atomicPat.; The reader's constructor.; One datatype that is declared, out of the contract of typeName (84).; The reader's typeName.; The reader's datatypes, out of the contract of one (109).
-/
import Derived.Test.YtkjgkchdkeggoaaGreatDoorProd
import Derived.Test.YtkjgkchdkeggoaaGreatDoorKeep
namespace Go.Proofs.YtkjgkchdkeggoaaGreatDoor
open Go.RowKit
set_option maxRecDepth 20000
set_option linter.unusedVariables false
set_option linter.unusedSimpArgs false

set_option maxHeartbeats 2000000 in
theorem tuple_any (m : Nat) (hcf : ∀ args w, Sem.run Tryz.prog (callFunc m args) w = .ok (.enter m args) w) (S : Src) (F fr n d : Nat) (read : Nat → Out Pb) (w : World) (h : Rd w S n d) (hF : F ≤ 1000000000)
    (hread : ∀ k w', Rd w' S k d → read k ≠ .dry → Calls Tryz.prog m #[.pointer (some ⟨S.g, 0, none⟩)] w' (fun e w'' => Ends S d w' (read k) (RB w') e w''))
    (hdry : tupleO S F fr read n ≠ .dry) :
    Calls Tryz.prog 115 #[.pointer (some ⟨S.g, 0, none⟩), .int .i64 (fr : Int), .func (.func m) #[] #[]] w fun e w' => Ends S d w (tupleO S F fr read n) (RB w) e w' := by
  have hgl := h.lt
  have hgwl := h.row
  have hb1 : Below w.heap.size w (w.alloc boxZ) := (Below.refl w.heap.size w).alloc (Nat.le_refl _) _
  have hr1 := h.step hb1
  have HP := Lib.hid (rpass_any S n d ⟨#[41]⟩ _ hr1 (by simp))
  simp only at HP
  unfold tupleO at hdry ⊢
  clear hr1 hb1 h
  cases hp : S.is n [41]
  · rw [hp] at hdry HP
    simp only [cond_false] at hdry HP ⊢
    have HDRY := Lib.hid hdry
    clear hdry
    go_enter Tryz.func115, Tryz.ntmps115
    go_wp2_with fail
    refine HP.out.mono ?_
    rintro e w3 ⟨rfl, hr3, hg3⟩
    have HG3 := Lib.hid hg3
    have HW := Lib.hid (rrow_any m #[] hcf S F n d ⟨#[44]⟩ read w3 hr3 (by simp) hF (fun k w' hr _ hnd => hread k w' hr hnd) (bind_dry HDRY.out))
    clear hr3 hg3
    go_wp2_with fail
    refine HW.out.mono ?_
    rintro e w4 (⟨l, n4, v, hpo, rfl, ⟨ys, hown, hK, hmap⟩, hr4, hg4⟩ | ⟨ch, ho, rfl, hg4⟩)
    · obtain ⟨kp, kc, rfl⟩ := own_form hown
      have hz3 : w.heap.size + 1 ≤ w3.heap.size := by have := HG3.out.size; simpa using this
      have HG4 := Lib.hid (grown_trans HG3.out hg4)
      have HO4 := Lib.hid (own_base (base' := w.heap.size + 1) hown hz3)
      have HK4 : Hid (Kids (w.heap.size + 1) (.slice kp ys.length kc) w4 ys) := Lib.hid (fun y hy => ⟨(hK y hy).1, (hK y hy).2.mono (fun q hq => ⟨by omega, hq.2⟩) _⟩)
      have HPO := Lib.hid hpo
      have HMAP := Lib.hid hmap
      have HN := Lib.hid (rneed_any S n4 d ⟨#[41]⟩ w4 hr4 (by simp))
      clear hpo hown hK hmap hr4 hg4
      go_wp2_with fail
      refine HN.out.mono ?_
      rintro e w5 (⟨u, n5, v, hpo5, rfl, hv, hr5, hg5⟩ | ⟨ch, ho, rfl, hg5⟩)
      · obtain rfl : v = .tuple #[] := hv
        have HO5 := Lib.hid (HO4.out.kept hg5 (Or.inr (fun e => by have := (HO4.out.lt _ e).1; omega)))
        have HK5 := Lib.hid (HK4.out.grow hg5 (by omega))
        have HG5 := Lib.hid (grown_trans HG4.out hg5)
        have HR5 := Lib.hid hr5
        have HPO5 := Lib.hid hpo5
        clear hpo5 hr5 hg5
        by_cases h1 : ys.length = 1
        · obtain ⟨y, rfl⟩ := List.length_eq_one_iff.1 h1
          obtain ⟨yh, yks⟩ := y
          obtain ⟨yk, ym, yf, yt, ynp, ynn, ync, yns, ykp, ykn, ykc⟩ := yh
          obtain ⟨gk, ck, hvk, _, hgk, _, _⟩ := own_pos HO5.out (by simp)
          injection hvk with hk1 hk2 hk3
          subst hk1 hk3
          have cell := fun j u hu => own_cell HO5.out j u hu
          have e0 := cell 0 _ rfl
          have e1 := cell 1 _ rfl
          have e2 := cell 2 _ rfl
          have e3 := cell 3 _ rfl
          have e4 := cell 4 _ rfl
          have e5 := cell 5 _ rfl
          simp only [Br.h] at e0 e1 e2 e3 e4 e5
          obtain ⟨hyl, hyo⟩ := HK5.out _ (List.mem_singleton.2 rfl)
          have FIN := Lib.hid (fin_box (o := ((rowO S F [44] read n).bind fun l n1 => (S.need [41] n1).bind fun _ n2 => Out.ok (oneOr l 30 fr n2 []) n2)) _ yk ym yf yt ynp ynn ync yns ykp ykn ykc yks HR5.out HG5.out hgl hgwl (by rw [HPO.out, bind_ok, HPO5.out, bind_ok, ← HMAP.out]; rfl) hyl (hyo.mono (fun q hq => hq.1) _) rfl)
          clear cell hyl hyo h1
          have c0 := FIN.out.c0
          have c1 := FIN.out.c1
          have c2 := FIN.out.c2
          have c3 := FIN.out.c3
          have c4 := FIN.out.c4
          have c5 := FIN.out.c5
          have f0 := FIN.out.fz 0
          have f1 := FIN.out.fz 1
          have f2 := FIN.out.fz 2
          have f3 := FIN.out.fz 3
          have f4 := FIN.out.fz 4
          have f5 := FIN.out.fz 5
          go_wp2_with fail
          obtain ⟨_, _, _, _, _, _, _, d0, d1, d2, d3, d4, d5, hfin⟩ := FIN.out
          refine bodyPost_ret (by simp [results, Tryz.results115, go_sem, d0, d1, d2, d3, d4, d5, Result.andThen]; try rfl) rfl ?_
          exact hfin
        · have hln : ∀ b, l ≠ [b] := fun b e => h1 (by have := congrArg List.length (HMAP.out.trans e); simpa using this)
          have HTOT : Hid (((rowO S F [44] read n).bind fun l n1 => (S.need [41] n1).bind fun _ n2 => Out.ok (oneOr l 30 fr n2 []) n2) = .ok (node 30 fr n5 [] l) n5) := Lib.hid (by rw [HPO.out, bind_ok, HPO5.out, bind_ok, oneOr_ne hln])
          have hgk : ((ys.length : Int) == 1) = false := by rw [beq_eq_false_iff_ne]; omega
          have h1i : ¬ ((ys.length : Nat) : Int) = 1 := by omega
          have HB := Lib.hid (rbranch_any S n5 d 30 fr none 0 0 kp ys.length kc w5 HR5.out)
          clear hln
          obtain ⟨nl, hnl⟩ : ∃ nl, nl = ys.length := ⟨_, rfl⟩
          have HNL := Lib.hid hnl
          rw [← hnl] at HO5 HK5 h1 h1i hgk HB ⊢
          clear hnl
          go_wp2_with fail
          refine HB.out.mono ?_
          rintro e w7 ⟨rfl, hb7⟩
          have HL := node_lies (w0 := w) (w1 := w) (N := w.heap.size + 1) 30 0 fr n5 (names_none (w := w7)) (by rw [← HNL.out]; exact ownsRow_below HO5.out hb7) (HK5.out.step hb7)
          have FIN := Lib.hid (fin_box (o := ((rowO S F [44] read n).bind fun l n1 => (S.need [41] n1).bind fun _ n2 => Out.ok (oneOr l 30 fr n2 []) n2)) (node 30 fr n5 [] l) 30 0 fr n5 none 0 0 _ kp nl kc ys (HR5.out.step hb7) (grown_trans HG5.out (grown_below hb7 _)) hgl hgwl HTOT.out HL.1 HL.2 (by rw [← HMAP.out]; simp [Br.pb, pbs_map, node]))
          clear HL hb7
          have c0 := FIN.out.c0
          have c1 := FIN.out.c1
          have c2 := FIN.out.c2
          have c3 := FIN.out.c3
          have c4 := FIN.out.c4
          have c5 := FIN.out.c5
          have f0 := FIN.out.fz 0
          have f1 := FIN.out.fz 1
          have f2 := FIN.out.fz 2
          have f3 := FIN.out.fz 3
          have f4 := FIN.out.fz 4
          have f5 := FIN.out.fz 5
          go_wp2_with fail
          obtain ⟨_, _, _, _, _, _, _, d0, d1, d2, d3, d4, d5, hfin⟩ := FIN.out
          refine bodyPost_ret (by simp [results, Tryz.results115, go_sem, d0, d1, d2, d3, d4, d5, Result.andThen]; try rfl) rfl ?_
          exact hfin
      · exact ⟨rfl, Or.inr ⟨ch, by rw [HPO.out, bind_ok]; exact pan_bind ho, rfl, grown_trans (grown_below ((Below.refl _ _).alloc (Nat.le_refl _) _) _) (grown_trans HG4.out hg5)⟩⟩
    · exact ⟨rfl, Or.inr ⟨ch, pan_bind ho, rfl, grown_trans (grown_below ((Below.refl _ _).alloc (Nat.le_refl _) _) _) (grown_trans HG3.out hg4)⟩⟩
  · rw [hp] at hdry HP
    simp only [cond_true] at hdry HP ⊢
    clear hdry
    go_enter Tryz.func115, Tryz.ntmps115
    go_wp2_with fail
    refine HP.out.mono ?_
    rintro e w3 ⟨rfl, hr3, hg3⟩
    have HG3 := Lib.hid hg3
    have HR3 := Lib.hid hr3
    have HB := Lib.hid (rbranch_any S (n + 1) d 30 fr none 0 0 none 0 0 w3 hr3)
    clear hr3 hg3
    go_wp2_with fail
    refine HB.out.mono ?_
    rintro e w7 ⟨rfl, hb7⟩
    have FIN := Lib.hid (fin_box (o := Out.ok (node 30 fr (n + 1) [] []) (n + 1)) (node 30 fr (n + 1) [] []) 30 0 fr ((n : Int) + 1) none 0 0 [] none 0 0 [] (HR3.out.step hb7) (grown_trans HG3.out (grown_below hb7 _)) hgl hgwl rfl (leaf_lies _ _ _ _ _) (leaf_on _ _ _ _ _) (by simp [Br.pb, pbs, node]))
    clear hb7
    have c0 := FIN.out.c0
    have c1 := FIN.out.c1
    have c2 := FIN.out.c2
    have c3 := FIN.out.c3
    have c4 := FIN.out.c4
    have c5 := FIN.out.c5
    have f0 := FIN.out.fz 0
    have f1 := FIN.out.fz 1
    have f2 := FIN.out.fz 2
    have f3 := FIN.out.fz 3
    have f4 := FIN.out.fz 4
    have f5 := FIN.out.fz 5
    go_wp2_with fail
    obtain ⟨_, _, _, _, _, _, _, d0, d1, d2, d3, d4, d5, hfin⟩ := FIN.out
    refine bodyPost_ret (by simp [results, Tryz.results115, go_sem, d0, d1, d2, d3, d4, d5, Result.andThen]; try rfl) rfl ?_
    exact hfin
end Go.Proofs.YtkjgkchdkeggoaaGreatDoor

namespace Go.Proofs.YtkjgkchdkeggoaaGreatDoor
open Go.RowKit
set_option maxRecDepth 20000
set_option linter.unusedVariables false
set_option linter.unusedSimpArgs false

set_option maxHeartbeats 2000000 in
theorem rplain_any (m : Nat) (hcf : ∀ args w, Sem.run Tryz.prog (callFunc m args) w = .ok (.enter m args) w) (S : Src) (F n d : Nat) (named : Int) (read : Nat → Out Pb) (w : World) (h : Rd w S n d) (hF : F ≤ 1000000000)
    (hread : ∀ k w', Rd w' S k d → read k ≠ .dry → Calls Tryz.prog m #[.pointer (some ⟨S.g, 0, none⟩)] w' (fun e w'' => Ends S d w' (read k) (RB w') e w''))
    (hdry : plainO S F named read n ≠ .dry) :
    Calls Tryz.prog 95 #[.pointer (some ⟨S.g, 0, none⟩), .int .i64 named, .func (.func m) #[] #[]] w fun e w' => Ends S d w (plainO S F named read n) (RB w) e w' := by
  have hgl := h.lt
  have hgwl := h.row
  have hbd := h.bound
  have hb1 : Below w.heap.size w (w.alloc boxZ) := (Below.refl w.heap.size w).alloc (Nat.le_refl _) _
  have hr1 := h.step hb1
  have HR1 := Lib.hid hr1
  have q2 := hr1.c2
  have HK1 := Lib.hid (rkind_any S n d _ hr1)
  unfold plainO at hdry ⊢
  clear hr1 hb1 h
  cases h4 : (S.kd n == 4)
  · rw [h4] at hdry
    simp only [cond_false] at hdry ⊢
    cases h5 : (S.kd n == 5)
    · rw [h5] at hdry
      simp only [cond_false] at hdry ⊢
      cases hp : S.is n [40]
      · rw [hp] at hdry
        simp only [cond_false] at hdry ⊢
        go_enter Tryz.func95, Tryz.ntmps95
        go_wp2_with fail
        refine HK1.out.mono ?_
        rintro e w1 ⟨rfl, hb1⟩
        have HB1 := Lib.hid hb1
        have HK2 := Lib.hid (rkind_any S n d w1 (HR1.out.step hb1))
        clear hb1
        go_wp2_with fail
        refine HK2.out.mono ?_
        rintro e w2 ⟨rfl, hb2⟩
        have hb2 := HB1.out.trans (hb2.mono HB1.out.size)
        have hr2 := HR1.out.step hb2
        have HG2 := Lib.hid (grown_below hb2 (some S.g))
        have HP := Lib.hid (rpass_any S n d ⟨#[40]⟩ w2 hr2 (by simp))
        simp only at HP
        rw [hp] at HP
        clear hr2 hb2
        go_wp2_with fail
        refine HP.out.mono ?_
        rintro e w3 ⟨rfl, hr3, hg3⟩
        have HG3 := Lib.hid (grown_trans HG2.out hg3)
        have HT := Lib.hid (rvalue_any S n d w3 hr3)
        clear hr3 hg3
        go_wp2_with fail
        refine HT.out.mono ?_
        rintro e w4 (⟨p, n4, v, hpo, rfl, hv, hr4, hg4⟩ | ⟨ch, ho, rfl, hg4⟩)
        · obtain rfl : v = .int .i64 (p : Int) := hv
          have hb5 : Below w4.heap.size w4 (w4.alloc (.cells #[.int .i64 (p : Int)] 3)) := (Below.refl _ _).alloc (Nat.le_refl _) _
          have HG4 := Lib.hid (grown_trans (grown_trans HG3.out hg4) (grown_below hb5 _))
          have hk4 : w.heap.size + 1 ≤ w4.heap.size := by have h1 := HG3.out.size; have h2 := hg4.size; have h3 : (w.alloc boxZ).heap.size = w.heap.size + 1 := by simp
                                                          omega
          have HN5 := Lib.hid (heap_alloc_new w4 (.cells #[.int .i64 (p : Int)] 3))
          have HPO := Lib.hid hpo
          have HR4 := Lib.hid (hr4.step hb5)
          have HB := Lib.hid (rbranch_any S n4 d named n (some ⟨w4.heap.size, 0, none⟩) 1 1 none 0 0 _ HR4.out)
          clear hpo hr4 hg4 hb5
          go_wp2_with fail
          refine HB.out.mono ?_
          rintro e w5 ⟨rfl, hb5⟩
          have hown : w5.ownsRow (w.heap.size + 1) 3 1 (.slice (some ⟨w4.heap.size, 0, none⟩) 1 1) [p].length ([p].map mkN) := own_lit ((hb5.block _ (Array.getElem?_eq_some_iff.1 HN5.out).1).trans HN5.out) hk4 rfl (by unfold maxLen; omega)
          have HL := node_lies (w0 := w) (w1 := w) named 0 n n4 hown kids_none.1 kids_none.2
          have FIN := Lib.hid (fin_box (o := (S.value n).bind fun m n1 => Out.ok (node named n n1 [m] []) n1) (node named n n4 [p] []) named 0 n n4 (some ⟨w4.heap.size, 0, none⟩) 1 1 _ none 0 0 [] (HR4.out.step hb5) (grown_trans HG4.out (grown_below hb5 _)) hgl hgwl (by rw [HPO.out]; rfl) HL.1 HL.2 (by simp [Br.pb, pbs, node]))
          clear HL hb5 hown
          have c0 := FIN.out.c0
          have c1 := FIN.out.c1
          have c2 := FIN.out.c2
          have c3 := FIN.out.c3
          have c4 := FIN.out.c4
          have c5 := FIN.out.c5
          have f0 := FIN.out.fz 0
          have f1 := FIN.out.fz 1
          have f2 := FIN.out.fz 2
          have f3 := FIN.out.fz 3
          have f4 := FIN.out.fz 4
          have f5 := FIN.out.fz 5
          go_wp2_with fail
          obtain ⟨_, _, _, _, _, _, _, d0, d1, d2, d3, d4, d5, hfin⟩ := FIN.out
          refine bodyPost_ret (by simp [results, Tryz.results95, go_sem, d0, d1, d2, d3, d4, d5, Result.andThen]; try rfl) rfl ?_
          exact hfin
        · exact ⟨rfl, Or.inr ⟨ch, pan_bind ho, rfl, grown_trans (grown_below ((Below.refl _ _).alloc (Nat.le_refl _) _) _) (grown_trans HG3.out hg4)⟩⟩
      · rw [hp] at hdry
        simp only [cond_true] at hdry ⊢
        have HDRY := Lib.hid hdry
        clear hdry
        go_enter Tryz.func95, Tryz.ntmps95
        go_wp2_with fail
        refine HK1.out.mono ?_
        rintro e w1 ⟨rfl, hb1⟩
        have HB1 := Lib.hid hb1
        have HK2 := Lib.hid (rkind_any S n d w1 (HR1.out.step hb1))
        clear hb1
        go_wp2_with fail
        refine HK2.out.mono ?_
        rintro e w2 ⟨rfl, hb2⟩
        have hb2 := HB1.out.trans (hb2.mono HB1.out.size)
        have hr2 := HR1.out.step hb2
        have HG2 := Lib.hid (grown_below hb2 (some S.g))
        have HP := Lib.hid (rpass_any S n d ⟨#[40]⟩ w2 hr2 (by simp))
        simp only at HP
        rw [hp] at HP
        clear hr2 hb2
        go_wp2_with fail
        refine HP.out.mono ?_
        rintro e w3 ⟨rfl, hr3, hg3⟩
        have HG3 := Lib.hid (grown_trans HG2.out hg3)
        have HT := Lib.hid (tuple_any m hcf S F n (n + 1) d read w3 hr3 hF hread HDRY.out)
        have hz3 : w.heap.size + 1 ≤ w3.heap.size := by have := HG3.out.size; simpa using this
        clear hr3 hg3
        go_wp2_with fail
        refine HT.out.mono ?_
        rintro e w4 (⟨b, n4, v, hpo, rfl, ⟨y, rfl, hyl, hyo, hyp⟩, hr4, hg4⟩ | ⟨ch, ho, rfl, hg4⟩)
        · obtain ⟨⟨yk, ym, yf, yt, ynp, ynn, ync, yns, ykp, ykn, ykc⟩, yks⟩ := y
          have FIN := Lib.hid (fin_box (o := tupleO S F n read (n + 1)) b yk ym yf yt ynp ynn ync yns ykp ykn ykc yks hr4 (grown_trans HG3.out hg4) hgl hgwl hpo hyl (hyo.mono (fun q hq => by omega) _) hyp)
          clear hpo hyl hyo hyp hr4 hg4
          simp only [Hd.val, Br.h] at *
          have c0 := FIN.out.c0
          have c1 := FIN.out.c1
          have c2 := FIN.out.c2
          have c3 := FIN.out.c3
          have c4 := FIN.out.c4
          have c5 := FIN.out.c5
          have f0 := FIN.out.fz 0
          have f1 := FIN.out.fz 1
          have f2 := FIN.out.fz 2
          have f3 := FIN.out.fz 3
          have f4 := FIN.out.fz 4
          have f5 := FIN.out.fz 5
          go_wp2_with fail
          obtain ⟨_, _, _, _, _, _, _, d0, d1, d2, d3, d4, d5, hfin⟩ := FIN.out
          refine bodyPost_ret (by simp [results, Tryz.results95, go_sem, d0, d1, d2, d3, d4, d5, Result.andThen]; try rfl) rfl ?_
          exact hfin
        · exact ⟨rfl, Or.inr ⟨ch, ho, rfl, grown_trans (grown_below ((Below.refl _ _).alloc (Nat.le_refl _) _) _) (grown_trans HG3.out hg4)⟩⟩
    · rw [h5] at hdry
      simp only [cond_true] at hdry ⊢
      have hk0 : S.kd n ≠ 0 := by intro e; rw [e] at h5; cases h5
      go_enter Tryz.func95, Tryz.ntmps95
      go_wp2_with fail
      refine HK1.out.mono ?_
      rintro e w1 ⟨rfl, hb1⟩
      have HB1 := Lib.hid hb1
      have HK2 := Lib.hid (rkind_any S n d w1 (HR1.out.step hb1))
      clear hb1
      go_wp2_with fail
      refine HK2.out.mono ?_
      rintro e w2 ⟨rfl, hb2⟩
      have hb2 := HB1.out.trans (hb2.mono HB1.out.size)
      have hr2 := HR1.out.step hb2
      have hmore := hr2.moreK hk0
      have HBU := Lib.hid (hr2.bump hmore)
      have d2 := hr2.c2
      have fz2 := hr2.free 2
      have HG2 := Lib.hid (grown_trans (grown_below hb2 (some S.g)) (grown_set S.g 2 (.int .i64 ((n : Int) + 1))))
      have HB := Lib.hid (rbranch_any S (n + 1) d 27 n none 0 0 none 0 0 _ HBU.out)
      clear hr2 hb2 hk0
      go_wp2_with fail
      refine HB.out.mono ?_
      rintro e w5 ⟨rfl, hb5⟩
      have FIN := Lib.hid (fin_box (o := Out.ok (node 27 n (n + 1) [] []) (n + 1)) (node 27 n (n + 1) [] []) 27 0 n ((n : Int) + 1) none 0 0 [] none 0 0 [] (HBU.out.step hb5) (grown_trans HG2.out (grown_below hb5 _)) hgl hgwl rfl (leaf_lies _ _ _ _ _) (leaf_on _ _ _ _ _) (by simp [Br.pb, pbs, node]))
      clear hb5 HBU d2 fz2
      have c0 := FIN.out.c0
      have c1 := FIN.out.c1
      have c2 := FIN.out.c2
      have c3 := FIN.out.c3
      have c4 := FIN.out.c4
      have c5 := FIN.out.c5
      have f0 := FIN.out.fz 0
      have f1 := FIN.out.fz 1
      have f2 := FIN.out.fz 2
      have f3 := FIN.out.fz 3
      have f4 := FIN.out.fz 4
      have f5 := FIN.out.fz 5
      go_wp2_with fail
      obtain ⟨_, _, _, _, _, _, _, d0, d1, d2, d3, d4, d5, hfin⟩ := FIN.out
      refine bodyPost_ret (by simp [results, Tryz.results95, go_sem, d0, d1, d2, d3, d4, d5, Result.andThen]; try rfl) rfl ?_
      exact hfin
  · rw [h4] at hdry
    simp only [cond_true] at hdry ⊢
    have hk0 : S.kd n ≠ 0 := by intro e; rw [e] at h4; cases h4
    go_enter Tryz.func95, Tryz.ntmps95
    go_wp2_with fail
    refine HK1.out.mono ?_
    rintro e w2 ⟨rfl, hb2⟩
    have hr2 := HR1.out.step hb2
    have hmore := hr2.moreK hk0
    have HBU := Lib.hid (hr2.bump hmore)
    have d2 := hr2.c2
    have fz2 := hr2.free 2
    have HG2 := Lib.hid (grown_trans (grown_below hb2 (some S.g)) (grown_set S.g 2 (.int .i64 ((n : Int) + 1))))
    have HB := Lib.hid (rbranch_any S (n + 1) d 26 n none 0 0 none 0 0 _ HBU.out)
    clear hr2 hb2 hk0
    go_wp2_with fail
    refine HB.out.mono ?_
    rintro e w5 ⟨rfl, hb5⟩
    have FIN := Lib.hid (fin_box (o := Out.ok (node 26 n (n + 1) [] []) (n + 1)) (node 26 n (n + 1) [] []) 26 0 n ((n : Int) + 1) none 0 0 [] none 0 0 [] (HBU.out.step hb5) (grown_trans HG2.out (grown_below hb5 _)) hgl hgwl rfl (leaf_lies _ _ _ _ _) (leaf_on _ _ _ _ _) (by simp [Br.pb, pbs, node]))
    clear hb5 HBU d2 fz2
    have c0 := FIN.out.c0
    have c1 := FIN.out.c1
    have c2 := FIN.out.c2
    have c3 := FIN.out.c3
    have c4 := FIN.out.c4
    have c5 := FIN.out.c5
    have f0 := FIN.out.fz 0
    have f1 := FIN.out.fz 1
    have f2 := FIN.out.fz 2
    have f3 := FIN.out.fz 3
    have f4 := FIN.out.fz 4
    have f5 := FIN.out.fz 5
    go_wp2_with fail
    obtain ⟨_, _, _, _, _, _, _, d0, d1, d2, d3, d4, d5, hfin⟩ := FIN.out
    refine bodyPost_ret (by simp [results, Tryz.results95, go_sem, d0, d1, d2, d3, d4, d5, Result.andThen]; try rfl) rfl ?_
    exact hfin
end Go.Proofs.YtkjgkchdkeggoaaGreatDoor

namespace Go.Proofs.YtkjgkchdkeggoaaGreatDoor
open Go.RowKit
set_option maxRecDepth 20000
set_option linter.unusedVariables false
set_option linter.unusedSimpArgs false

theorem cf41 (args : Array Value) (w : World) : Sem.run Tryz.prog (callFunc 41 args) w = .ok (.enter 41 args) w := cf_enter Tryz.func41 (by kernel_rfl) (by kernel_rfl) args w
set_option maxHeartbeats 2000000 in
theorem atomicPat_any (S : Src) (F : Nat) (rec : Nt → Nat → Nat → Out Pb) (d : Nat) (hs : Said S rec d) (hF : F ≤ 1000000000) (n : Nat) (w : World) (h : Rd w S n d) (hdry : atomicPatO S F rec d n ≠ .dry) :
    Calls Tryz.prog 72 #[.pointer (some ⟨S.g, 0, none⟩)] w fun e w' => Ends S d w (atomicPatO S F rec d n) (RB w) e w' := by
  have hgl := h.lt
  have hgwl := h.row
  have hbd := h.bound
  have hb1 : Below w.heap.size w (w.alloc boxZ) := (Below.refl w.heap.size w).alloc (Nat.le_refl _) _
  have hr1 := h.step hb1
  have q2 := hr1.c2
  have HP := Lib.hid (rpass_any S n d ⟨#[95]⟩ _ hr1 (by simp))
  simp only at HP
  unfold atomicPatO at hdry ⊢
  clear hr1 hb1 h
  cases hp : S.is n [95]
  · rw [hp] at hdry HP
    simp only [cond_false] at hdry HP ⊢
    cases h7 : (S.kd n == 7)
    · rw [h7] at hdry
      simp only [cond_false] at hdry ⊢
      have HDRY := Lib.hid hdry
      clear hdry
      go_enter Tryz.func72, Tryz.ntmps72
      go_wp2_with fail
      refine HP.out.mono ?_
      rintro e w2 ⟨rfl, hr2, hg2⟩
      have HG2 := Lib.hid hg2
      have HR2 := Lib.hid hr2
      have HK := Lib.hid (rkind_any S n d w2 hr2)
      clear hr2 hg2
      go_wp2_with fail
      refine HK.out.mono ?_
      rintro e w3 ⟨rfl, hb3⟩
      have HG3 := Lib.hid (grown_trans HG2.out (grown_below hb3 _))
      have HT := Lib.hid (rplain_any 41 cf41 S F n d 39 (rec .pat d) w3 (HR2.out.step hb3) hF (fun k w' hr hnd => hs.pat k w' hr hnd) HDRY.out)
      have hz3 : w.heap.size + 1 ≤ w3.heap.size := by have := HG3.out.size; simpa using this
      clear hb3
      go_wp2_with fail
      refine HT.out.mono ?_
      rintro e w4 (⟨b, n4, v, hpo, rfl, ⟨y, rfl, hyl, hyo, hyp⟩, hr4, hg4⟩ | ⟨ch, ho, rfl, hg4⟩)
      · obtain ⟨⟨yk, ym, yf, yt, ynp, ynn, ync, yns, ykp, ykn, ykc⟩, yks⟩ := y
        have FIN := Lib.hid (fin_box (o := plainO S F 39 (rec .pat d) n) b yk ym yf yt ynp ynn ync yns ykp ykn ykc yks hr4 (grown_trans HG3.out hg4) hgl hgwl hpo hyl (hyo.mono (fun q hq => by omega) _) hyp)
        clear hpo hyl hyo hyp hr4 hg4
        simp only [Hd.val, Br.h] at *
        have c0 := FIN.out.c0
        have c1 := FIN.out.c1
        have c2 := FIN.out.c2
        have c3 := FIN.out.c3
        have c4 := FIN.out.c4
        have c5 := FIN.out.c5
        have f0 := FIN.out.fz 0
        have f1 := FIN.out.fz 1
        have f2 := FIN.out.fz 2
        have f3 := FIN.out.fz 3
        have f4 := FIN.out.fz 4
        have f5 := FIN.out.fz 5
        go_wp2_with fail
        obtain ⟨_, _, _, _, _, _, _, d0, d1, d2, d3, d4, d5, hfin⟩ := FIN.out
        refine bodyPost_ret (by simp [results, Tryz.results72, go_sem, d0, d1, d2, d3, d4, d5, Result.andThen]; try rfl) rfl ?_
        exact hfin
      · exact ⟨rfl, Or.inr ⟨ch, ho, rfl, grown_trans (grown_below ((Below.refl _ _).alloc (Nat.le_refl _) _) _) (grown_trans HG3.out hg4)⟩⟩
    · rw [h7] at hdry
      simp only [cond_true] at hdry ⊢
      have HDRY := Lib.hid hdry
      clear hdry
      go_enter Tryz.func72, Tryz.ntmps72
      go_wp2_with fail
      refine HP.out.mono ?_
      rintro e w2 ⟨rfl, hr2, hg2⟩
      have HG2 := Lib.hid hg2
      have HR2 := Lib.hid hr2
      have HK := Lib.hid (rkind_any S n d w2 hr2)
      clear hr2 hg2
      go_wp2_with fail
      refine HK.out.mono ?_
      rintro e w3 ⟨rfl, hb3⟩
      have hb4 : Below w3.heap.size w3 (w3.alloc (.cells #[.int .i64 7] 3)) := (Below.refl _ _).alloc (Nat.le_refl _) _
      have hr3 := HR2.out.step hb3
      have hr4 := hr3.step hb4
      have hgl3 := hr3.lt
      have hg3 := grown_trans HG2.out (grown_below hb3 (some S.g))
      have HG4 := Lib.hid (grown_trans hg3 (grown_below hb4 (some S.g)))
      have hz3 : w.heap.size + 1 ≤ w3.heap.size := by have := hg3.size; simpa using this
      have hat : IntCells (w3.alloc (.cells #[.int .i64 7] 3)) w3.heap.size [7] := fun i hi => by
        obtain rfl : i = 0 := by simpa using hi
        exact Lib.cell_of_heap (heap_alloc_new w3 (.cells #[.int .i64 7] 3)) 0
      have HT := Lib.hid (rpath_any S n d [7] w3.heap.size 1 _ hr4 hat (by simp) (by omega) (by simp) (by simp) (by decide) (bind_dry HDRY.out))
      have hz4 : (w3.alloc (.cells #[.int .i64 7] 3)).heap.size = w3.heap.size + 1 := by simp
      clear hb3 hb4 hr3 hr4 hat hg3
      simp only [List.length_cons, List.length_nil, Nat.zero_add] at HT
      go_wp2_with fail
      refine HT.out.mono ?_
      rintro e w4 (⟨p, n4, v, hpo, rfl, hv, hr4, hg4⟩ | ⟨ch, ho, rfl, hg4⟩)
      · obtain ⟨np, nn, nc, rfl⟩ := hv.form
        have HG5 := Lib.hid (grown_trans HG4.out hg4)
        have HV := Lib.hid (own_base (base' := w.heap.size + 1) hv (by omega))
        have HPO := Lib.hid hpo
        have HR4 := Lib.hid hr4
        have HB := Lib.hid (rbranch_any S n4 d 29 n np nn nc none 0 0 w4 hr4)
        clear hpo hv hr4 hg4
        go_wp2_with fail
        refine HB.out.mono ?_
        rintro e w5 ⟨rfl, hb5⟩
        have HL := node_lies (w0 := w) (w1 := w) 29 0 n n4 (ownsRow_below HV.out hb5) kids_none.1 kids_none.2
        have FIN := Lib.hid (fin_box (o := (S.path [7] n).bind fun p n1 => Out.ok (node 29 n n1 p []) n1) (node 29 n n4 p []) 29 0 n n4 np nn nc _ none 0 0 [] (HR4.out.step hb5) (grown_trans HG5.out (grown_below hb5 _)) hgl hgwl (by rw [HPO.out]; rfl) HL.1 HL.2 (by simp [Br.pb, pbs, node]))
        clear HL hb5
        have c0 := FIN.out.c0
        have c1 := FIN.out.c1
        have c2 := FIN.out.c2
        have c3 := FIN.out.c3
        have c4 := FIN.out.c4
        have c5 := FIN.out.c5
        have f0 := FIN.out.fz 0
        have f1 := FIN.out.fz 1
        have f2 := FIN.out.fz 2
        have f3 := FIN.out.fz 3
        have f4 := FIN.out.fz 4
        have f5 := FIN.out.fz 5
        go_wp2_with fail
        obtain ⟨_, _, _, _, _, _, _, d0, d1, d2, d3, d4, d5, hfin⟩ := FIN.out
        refine bodyPost_ret (by simp [results, Tryz.results72, go_sem, d0, d1, d2, d3, d4, d5, Result.andThen]; try rfl) rfl ?_
        exact hfin
      · exact ⟨rfl, Or.inr ⟨ch, pan_bind ho, rfl, grown_trans (grown_below ((Below.refl _ _).alloc (Nat.le_refl _) _) _) (grown_trans HG4.out hg4)⟩⟩
  · rw [hp] at hdry HP
    simp only [cond_true] at hdry HP ⊢
    clear hdry
    go_enter Tryz.func72, Tryz.ntmps72
    go_wp2_with fail
    refine HP.out.mono ?_
    rintro e w3 ⟨rfl, hr3, hg3⟩
    have HG3 := Lib.hid hg3
    have HR3 := Lib.hid hr3
    have HB := Lib.hid (rbranch_any S (n + 1) d 38 n none 0 0 none 0 0 w3 hr3)
    clear hr3 hg3
    go_wp2_with fail
    refine HB.out.mono ?_
    rintro e w7 ⟨rfl, hb7⟩
    have FIN := Lib.hid (fin_box (o := Out.ok (node 38 n (n + 1) [] []) (n + 1)) (node 38 n (n + 1) [] []) 38 0 n ((n : Int) + 1) none 0 0 [] none 0 0 [] (HR3.out.step hb7) (grown_trans HG3.out (grown_below hb7 _)) hgl hgwl rfl (leaf_lies _ _ _ _ _) (leaf_on _ _ _ _ _) (by simp [Br.pb, pbs, node]))
    clear hb7
    have c0 := FIN.out.c0
    have c1 := FIN.out.c1
    have c2 := FIN.out.c2
    have c3 := FIN.out.c3
    have c4 := FIN.out.c4
    have c5 := FIN.out.c5
    have f0 := FIN.out.fz 0
    have f1 := FIN.out.fz 1
    have f2 := FIN.out.fz 2
    have f3 := FIN.out.fz 3
    have f4 := FIN.out.fz 4
    have f5 := FIN.out.fz 5
    go_wp2_with fail
    obtain ⟨_, _, _, _, _, _, _, d0, d1, d2, d3, d4, d5, hfin⟩ := FIN.out
    refine bodyPost_ret (by simp [results, Tryz.results72, go_sem, d0, d1, d2, d3, d4, d5, Result.andThen]; try rfl) rfl ?_
    exact hfin
end Go.Proofs.YtkjgkchdkeggoaaGreatDoor

namespace Go.Proofs.YtkjgkchdkeggoaaGreatDoor
open Go.RowKit
set_option maxRecDepth 20000
set_option linter.unusedVariables false
set_option linter.unusedSimpArgs false

set_option maxHeartbeats 2000000 in
theorem con_any (S : Src) (rec : Nt → Nat → Nat → Out Pb) (d : Nat) (hs : Said S rec d) (n : Nat) (w : World) (h : Rd w S n d) (hdry : conO S rec d n ≠ .dry) :
    Calls Tryz.prog 110 #[.pointer (some ⟨S.g, 0, none⟩)] w fun e w' => Ends S d w (conO S rec d n) (RB w) e w' := by
  have hgl := h.lt
  have hgwl := h.row
  have hb1 : Below w.heap.size w (w.alloc boxZ) := (Below.refl w.heap.size w).alloc (Nat.le_refl _) _
  have hr1 := h.step hb1
  have q2 := hr1.c2
  have hgz : (w.alloc boxZ).heap.size = w.heap.size + 1 := by simp
  have ht := take1 S n d 7 (by decide) (w.alloc boxZ) hr1
  rw [hgz] at ht
  have HT := Lib.hid ht
  unfold conO at hdry ⊢
  obtain ⟨tot, htot⟩ : ∃ tot, tot = (S.take [7] n).bind fun m n1 => bif S.is n1 [111, 102] then (rec .ty d (n1 + 1)).bind fun b n2 => .ok (node 9 n n2 [m] [b]) n2 else .ok (node 9 n n1 [m] []) n1 := ⟨_, rfl⟩
  have HDRY : Hid (tot ≠ .dry) := Lib.hid (by rw [htot]; exact hdry)
  rw [← htot]
  have HTOT := Lib.hid htot
  clear hr1 hb1 h hdry htot ht
  go_enter Tryz.func110, Tryz.ntmps110
  go_wp2_with fail
  refine HT.out.mono ?_
  rintro e w1 (⟨m, n1, v, hpo, rfl, hv, hr, hg⟩ | ⟨ch, ho, rfl, hg⟩)
  · obtain rfl : v = .int .i64 (m : Int) := hv
    have hz1 : w.heap.size + 1 ≤ w1.heap.size := by have := hg.size; omega
    have hbA : Below w1.heap.size w1 (w1.alloc (.cells #[.int .i64 (m : Int)] 3)) := (Below.refl _ _).alloc (Nat.le_refl _) _
    have hrA := hr.step hbA
    have HGA := Lib.hid (grown_trans hg (grown_below hbA (some S.g)))
    have HNA := Lib.hid (heap_alloc_new w1 (.cells #[.int .i64 (m : Int)] 3))
    have hsA : (w1.alloc (.cells #[.int .i64 (m : Int)] 3)).heap.size = w1.heap.size + 1 := by simp
    have HSA := Lib.hid hsA
    have HEQ : Hid (tot = bif S.is n1 [111, 102] then (rec .ty d (n1 + 1)).bind fun b n2 => .ok (node 9 n n2 [m] [b]) n2 else .ok (node 9 n n1 [m] []) n1) := Lib.hid (by rw [HTOT.out, hpo, bind_ok])
    have HP := Lib.hid (rpass_any S n1 d ⟨#[111, 102]⟩ _ hrA (by simp))
    simp only at HP
    clear hpo hr hg hbA hrA hsA HT HTOT
    cases hp : S.is n1 [111, 102] <;> rw [hp] at HP
    · have HEQ2 : Hid (tot = .ok (node 9 n n1 [m] []) n1) := Lib.hid (by rw [HEQ.out, hp]; rfl)
      clear HEQ hp
      go_wp2_with fail
      refine HP.out.mono ?_
      rintro e w3 ⟨rfl, hr3, hg3⟩
      have HN3 := Lib.hid ((hg3.block w1.heap.size (by rw [HSA.out]; omega) (fun e => by have := Option.some.inj e; omega)).trans HNA.out)
      have HG3 := Lib.hid (grown_trans HGA.out hg3)
      have HR3 := Lib.hid hr3
      have HB := Lib.hid (rbranch_any S n1 d 9 n (some ⟨w1.heap.size, 0, none⟩) 1 1 none 0 0 w3 hr3)
      clear hr3 hg3 HP
      go_wp2_with fail
      refine HB.out.mono ?_
      rintro e w5 ⟨rfl, hb5⟩
      have hown : w5.ownsRow (w.heap.size + 1) 3 1 (.slice (some ⟨w1.heap.size, 0, none⟩) 1 1) [m].length ([m].map mkN) := own_lit ((hb5.block _ (Array.getElem?_eq_some_iff.1 HN3.out).1).trans HN3.out) hz1 rfl (by unfold maxLen; omega)
      have HL := node_lies (w0 := w) (w1 := w) 9 0 n n1 hown kids_none.1 kids_none.2
      have FIN := Lib.hid (fin_box (o := tot) (node 9 n n1 [m] []) 9 0 n n1 (some ⟨w1.heap.size, 0, none⟩) 1 1 _ none 0 0 [] (HR3.out.step hb5) (grown_trans HG3.out (grown_below hb5 _)) hgl hgwl HEQ2.out HL.1 HL.2 (by simp [Br.pb, pbs, node]))
      clear HL hb5 hown
      have c0 := FIN.out.c0
      have c1 := FIN.out.c1
      have c2 := FIN.out.c2
      have c3 := FIN.out.c3
      have c4 := FIN.out.c4
      have c5 := FIN.out.c5
      have f0 := FIN.out.fz 0
      have f1 := FIN.out.fz 1
      have f2 := FIN.out.fz 2
      have f3 := FIN.out.fz 3
      have f4 := FIN.out.fz 4
      have f5 := FIN.out.fz 5
      go_wp2_with fail
      obtain ⟨_, _, _, _, _, _, _, d0, d1, d2, d3, d4, d5, hfin⟩ := FIN.out
      refine bodyPost_ret (by simp [results, Tryz.results110, go_sem, d0, d1, d2, d3, d4, d5, Result.andThen]; try rfl) rfl ?_
      exact hfin
    · have HEQ2 : Hid (tot = (rec .ty d (n1 + 1)).bind fun b n2 => .ok (node 9 n n2 [m] [b]) n2) := Lib.hid (by rw [HEQ.out, hp]; rfl)
      clear HEQ hp
      go_wp2_with fail
      refine HP.out.mono ?_
      rintro e w3 ⟨rfl, hr3, hg3⟩
      have HN3 := Lib.hid ((hg3.block w1.heap.size (by rw [HSA.out]; omega) (fun e => by have := Option.some.inj e; omega)).trans HNA.out)
      have hz3 : w1.heap.size < w3.heap.size := by have := hg3.size; have h2 := HSA.out; omega
      have HG3 := Lib.hid (grown_trans HGA.out hg3)
      have HY := Lib.hid (hs.ty (n1 + 1) w3 hr3 (bind_dry (by rw [← HEQ2.out]; exact HDRY.out)))
      clear hr3 hg3 HP
      go_wp2_with fail
      refine HY.out.mono ?_
      rintro e w4 (⟨b, n4, v, hpo, rfl, ⟨y, rfl, hyl, hyo, hyp⟩, hr4, hg4⟩ | ⟨ch, ho, rfl, hg4⟩)
      · obtain ⟨⟨yk, ym, yf, yt, ynp, ynn, ync, yns, ykp, ykn, ykc⟩, yks⟩ := y
        have hz4 : w3.heap.size ≤ w4.heap.size := hg4.size
        have hbB : Below w4.heap.size w4 (w4.alloc (.cells #[.int .i64 yk, .int .i64 ym, .int .i64 yf, .int .i64 yt, .slice ynp ynn ync, .slice ykp ykn ykc] 26)) := (Below.refl _ _).alloc (Nat.le_refl _) _
        have HN4 := Lib.hid ((hbB.block w1.heap.size (by omega)).trans ((hg4.block w1.heap.size hz3 (fun e => by have := Option.some.inj e; omega)).trans HN3.out))
        have HK4 := Lib.hid (heap_alloc_new w4 (.cells #[.int .i64 yk, .int .i64 ym, .int .i64 yf, .int .i64 yt, .slice ynp ynn ync, .slice ykp ykn ykc] 26))
        have HKI : Hid (Kids (w.heap.size + 1) (.slice (some ⟨w4.heap.size, 0, none⟩) 1 1) (w4.alloc (.cells #[.int .i64 yk, .int .i64 ym, .int .i64 yf, .int .i64 yt, .slice ynp ynn ync, .slice ykp ykn ykc] 26)) [(Br.mk ⟨yk, ym, yf, yt, ynp, ynn, ync, yns, ykp, ykn, ykc⟩ yks)]) := Lib.hid (kids_one (w := w3) (by omega) hyl hyo 1 1)
        have HR4 := Lib.hid (hr4.step hbB)
        have HG4 := Lib.hid (grown_trans (grown_trans HG3.out hg4) (grown_below hbB _))
        have HEQ3 : Hid (tot = .ok (node 9 n n4 [m] [Br.pb (Br.mk ⟨yk, ym, yf, yt, ynp, ynn, ync, yns, ykp, ykn, ykc⟩ yks)]) n4) := Lib.hid (by rw [HEQ2.out, hpo, bind_ok, hyp])
        have HB := Lib.hid (rbranch_any S n4 d 9 n (some ⟨w1.heap.size, 0, none⟩) 1 1 (some ⟨w4.heap.size, 0, none⟩) 1 1 _ HR4.out)
        have hz5 : w.heap.size + 1 ≤ w4.heap.size := by omega
        clear hpo hyl hyo hyp hr4 hg4 hbB HY
        simp only [Hd.val, Br.h] at *
        go_wp2_with fail
        refine HB.out.mono ?_
        rintro e w7 ⟨rfl, hb7⟩
        have hown : w7.ownsRow (w.heap.size + 1) 3 1 (.slice (some ⟨w1.heap.size, 0, none⟩) 1 1) [m].length ([m].map mkN) := own_lit ((hb7.block _ (Array.getElem?_eq_some_iff.1 HN4.out).1).trans HN4.out) hz1 rfl (by unfold maxLen; omega)
        have hkow : w7.ownsRow (w.heap.size + 1) 26 6 (.slice (some ⟨w4.heap.size, 0, none⟩) 1 1) [(Br.mk ⟨yk, ym, yf, yt, ynp, ynn, ync, yns, ykp, ykn, ykc⟩ yks)].length (cellsK [(Br.mk ⟨yk, ym, yf, yt, ynp, ynn, ync, yns, ykp, ykn, ykc⟩ yks)]) := own_lit ((hb7.block _ (Array.getElem?_eq_some_iff.1 HK4.out).1).trans HK4.out) hz5 rfl (by unfold maxLen; omega)
        have HL := node_lies (w0 := w) (w1 := w) 9 0 n n4 hown hkow (HKI.out.step hb7)
        have FIN := Lib.hid (fin_box (o := tot) (node 9 n n4 [m] [Br.pb (Br.mk ⟨yk, ym, yf, yt, ynp, ynn, ync, yns, ykp, ykn, ykc⟩ yks)]) 9 0 n n4 (some ⟨w1.heap.size, 0, none⟩) 1 1 _ (some ⟨w4.heap.size, 0, none⟩) 1 1 [(Br.mk ⟨yk, ym, yf, yt, ynp, ynn, ync, yns, ykp, ykn, ykc⟩ yks)] (HR4.out.step hb7) (grown_trans HG4.out (grown_below hb7 _)) hgl hgwl HEQ3.out HL.1 HL.2 (by simp [Br.pb, pbs, node]))
        clear HL hb7 hown hkow
        have c0 := FIN.out.c0
        have c1 := FIN.out.c1
        have c2 := FIN.out.c2
        have c3 := FIN.out.c3
        have c4 := FIN.out.c4
        have c5 := FIN.out.c5
        have f0 := FIN.out.fz 0
        have f1 := FIN.out.fz 1
        have f2 := FIN.out.fz 2
        have f3 := FIN.out.fz 3
        have f4 := FIN.out.fz 4
        have f5 := FIN.out.fz 5
        go_wp2_with fail
        obtain ⟨_, _, _, _, _, _, _, d0, d1, d2, d3, d4, d5, hfin⟩ := FIN.out
        refine bodyPost_ret (by simp [results, Tryz.results110, go_sem, d0, d1, d2, d3, d4, d5, Result.andThen]; try rfl) rfl ?_
        exact hfin
      · exact ⟨rfl, Or.inr ⟨ch, by rw [HEQ2.out]; exact pan_bind ho, rfl, grown_trans (grown_below ((Below.refl _ _).alloc (Nat.le_refl _) _) _) (grown_trans HG3.out hg4)⟩⟩
  · exact ⟨rfl, Or.inr ⟨ch, by rw [HTOT.out]; exact pan_bind ho, rfl, grown_trans (grown_below ((Below.refl _ _).alloc (Nat.le_refl _) _) _) hg⟩⟩
end Go.Proofs.YtkjgkchdkeggoaaGreatDoor

namespace Go.Proofs.YtkjgkchdkeggoaaGreatDoor
open Go.RowKit
set_option maxRecDepth 20000
set_option linter.unusedVariables false
set_option linter.unusedSimpArgs false

/-- A slice of one number, of the call's own. -/
def R1 (w0 : World) : Nat → Value → World → Prop := fun m v w' => w'.ownsRow w0.heap.size 3 1 v [m].length ([m].map mkN)
theorem cf110 (args : Array Value) (w : World) : Sem.run Tryz.prog (callFunc 110 args) w = .ok (.enter 110 args) w := cf_enter Tryz.func110 (by kernel_rfl) (by kernel_rfl) args w
set_option maxHeartbeats 2000000 in
theorem dbind_any (S : Src) (F : Nat) (rec : Nt → Nat → Nat → Out Pb) (d : Nat) (hs : Said S rec d) (hF : F ≤ 1000000000)
    (hT : ∀ k w', Rd w' S k d → typeNameO S F k ≠ .dry → Calls Tryz.prog 84 #[.pointer (some ⟨S.g, 0, none⟩)] w' fun e w'' => Ends S d w' (typeNameO S F k) (R1 w') e w'')
    (n : Nat) (w : World) (h : Rd w S n d) (hdry : dbindO S F rec d n ≠ .dry) :
    Calls Tryz.prog 109 #[.pointer (some ⟨S.g, 0, none⟩)] w fun e w' => Ends S d w (dbindO S F rec d n) (RB w) e w' := by
  have hgl := h.lt
  have hgwl := h.row
  have hb1 : Below w.heap.size w (w.alloc boxZ) := (Below.refl w.heap.size w).alloc (Nat.le_refl _) _
  have hr1 := h.step hb1
  have q2 := hr1.c2
  have hgz : (w.alloc boxZ).heap.size = w.heap.size + 1 := by simp
  unfold dbindO at hdry ⊢
  have HT := Lib.hid (hT n _ hr1 (bind_dry hdry))
  obtain ⟨tot, htot⟩ : ∃ tot, tot = (typeNameO S F n).bind fun m n1 => (S.need [61] n1).bind fun _ n2 => (rowO S F [124] (conO S rec d) n2).bind fun l n3 => .ok (node 8 n n3 [m] l) n3 := ⟨_, rfl⟩
  have HDRY : Hid (tot ≠ .dry) := Lib.hid (by rw [htot]; exact hdry)
  rw [← htot]
  have HTOT := Lib.hid htot
  clear hr1 hb1 h hdry htot hT
  go_enter Tryz.func109, Tryz.ntmps109
  go_wp2_with fail
  refine HT.out.mono ?_
  rintro e w1 (⟨m, n1, v, hpo, rfl, hv, hr, hg⟩ | ⟨ch, ho, rfl, hg⟩)
  · obtain ⟨np, nc, rfl⟩ := own_form hv
    have hz1 : w.heap.size + 1 ≤ w1.heap.size := by have := hg.size; omega
    have HV1 := Lib.hid (own_base (base' := w.heap.size + 1) hv (by omega))
    have HG1 := Lib.hid hg
    have HEQ : Hid (tot = (S.need [61] n1).bind fun _ n2 => (rowO S F [124] (conO S rec d) n2).bind fun l n3 => .ok (node 8 n n3 [m] l) n3) := Lib.hid (by rw [HTOT.out, hpo, bind_ok])
    have HN := Lib.hid (rneed_any S n1 d ⟨#[61]⟩ w1 hr (by simp))
    clear hpo hr hg hv HT HTOT
    go_wp2_with fail
    refine HN.out.mono ?_
    rintro e w2 (⟨u, n2, v, hno, rfl, hv, hr2, hg2⟩ | ⟨ch, ho, rfl, hg2⟩)
    · obtain rfl : v = .tuple #[] := hv
      have HV2 := Lib.hid (HV1.out.kept hg2 (Or.inr (fun e => by have := (HV1.out.lt _ e).1; omega)))
      have HG2 := Lib.hid (grown_trans HG1.out hg2)
      have hz2 : w.heap.size + 1 ≤ w2.heap.size := Nat.le_trans hz1 hg2.size
      have HEQ2 : Hid (tot = (rowO S F [124] (conO S rec d) n2).bind fun l n3 => .ok (node 8 n n3 [m] l) n3) := Lib.hid (by rw [HEQ.out]; rw [show S.need [61] n1 = .ok u n2 from hno, bind_ok])
      have HW := Lib.hid (rrow_any 110 #[] cf110 S F n2 d ⟨#[124]⟩ (conO S rec d) _ hr2 (by simp) hF (fun k w' hr _ hnd => con_any S rec d hs k w' hr hnd) (bind_dry (by rw [← HEQ2.out]; exact HDRY.out)))
      clear hno hr2 hg2 HN HEQ
      go_wp2_with fail
      refine HW.out.mono ?_
      rintro e w4 (⟨l, n4, v, hpo, rfl, ⟨ys, hown, hK, hmap⟩, hr4, hg4⟩ | ⟨ch, ho, rfl, hg4⟩)
      · obtain ⟨kp, kc, rfl⟩ := own_form hown
        have HV4 := Lib.hid (HV2.out.kept hg4 (Or.inr (fun e => by have := (HV2.out.lt _ e).1; omega)))
        have HG5 := Lib.hid (grown_trans HG2.out hg4)
        have HO5 := Lib.hid (own_base (base' := w.heap.size + 1) hown hz2)
        have HK5 : Hid (Kids (w.heap.size + 1) (.slice kp ys.length kc) w4 ys) := Lib.hid (fun y hy => ⟨(hK y hy).1, (hK y hy).2.mono (fun q hq => ⟨by have := hq.1; omega, hq.2⟩) _⟩)
        have HEQ3 : Hid (tot = .ok (node 8 n n4 [m] l) n4) := Lib.hid (by rw [HEQ2.out, hpo, bind_ok])
        have HMAP := Lib.hid hmap
        have HR5 := Lib.hid hr4
        have HB := Lib.hid (rbranch_any S n4 d 8 n np [m].length nc kp ys.length kc w4 hr4)
        clear hpo hown hK hmap hr4 hg4 HW
        obtain ⟨nl, hnl⟩ : ∃ nl, nl = ys.length := ⟨_, rfl⟩
        have HNL := Lib.hid hnl
        rw [← hnl] at HO5 HK5 HB ⊢
        clear hnl
        simp only [List.length_cons, List.length_nil, Nat.zero_add] at HB ⊢
        go_wp2_with fail
        refine HB.out.mono ?_
        rintro e w7 ⟨rfl, hb7⟩
        have HL := node_lies (w0 := w) (w1 := w) (N := w.heap.size + 1) 8 0 n n4 (ownsRow_below HV4.out hb7) (by rw [← HNL.out]; exact ownsRow_below HO5.out hb7) (HK5.out.step hb7)
        have FIN := Lib.hid (fin_box (o := tot) (node 8 n n4 [m] l) 8 0 n n4 np 1 nc _ kp nl kc ys (HR5.out.step hb7) (grown_trans HG5.out (grown_below hb7 _)) hgl hgwl HEQ3.out HL.1 HL.2 (by rw [← HMAP.out]; simp [Br.pb, pbs_map, node]))
        clear HL hb7
        have c0 := FIN.out.c0
        have c1 := FIN.out.c1
        have c2 := FIN.out.c2
        have c3 := FIN.out.c3
        have c4 := FIN.out.c4
        have c5 := FIN.out.c5
        have f0 := FIN.out.fz 0
        have f1 := FIN.out.fz 1
        have f2 := FIN.out.fz 2
        have f3 := FIN.out.fz 3
        have f4 := FIN.out.fz 4
        have f5 := FIN.out.fz 5
        go_wp2_with fail
        obtain ⟨_, _, _, _, _, _, _, d0, d1, d2, d3, d4, d5, hfin⟩ := FIN.out
        refine bodyPost_ret (by simp [results, Tryz.results109, go_sem, d0, d1, d2, d3, d4, d5, Result.andThen]; try rfl) rfl ?_
        exact hfin
      · exact ⟨rfl, Or.inr ⟨ch, by rw [HEQ2.out]; exact pan_bind ho, rfl, grown_trans (grown_below ((Below.refl _ _).alloc (Nat.le_refl _) _) _) (grown_trans HG2.out hg4)⟩⟩
    · exact ⟨rfl, Or.inr ⟨ch, by rw [HEQ.out]; exact pan_bind ho, rfl, grown_trans (grown_below ((Below.refl _ _).alloc (Nat.le_refl _) _) _) (grown_trans HG1.out hg2)⟩⟩
  · exact ⟨rfl, Or.inr ⟨ch, by rw [HTOT.out]; exact pan_bind ho, rfl, grown_trans (grown_below ((Below.refl _ _).alloc (Nat.le_refl _) _) _) hg⟩⟩
end Go.Proofs.YtkjgkchdkeggoaaGreatDoor

namespace Go.Proofs.YtkjgkchdkeggoaaGreatDoor
open Go.RowKit
set_option maxRecDepth 20000
set_option linter.unusedVariables false
set_option linter.unusedSimpArgs false

set_option maxHeartbeats 2000000 in
theorem typeName_any (S : Src) (F n d : Nat) (hF : F ≤ 1000000000) (w : World) (h : Rd w S n d) (hdry : typeNameO S F n ≠ .dry) :
    Calls Tryz.prog 84 #[.pointer (some ⟨S.g, 0, none⟩)] w fun e w' => Ends S d w (typeNameO S F n) (R1 w) e w' := by
  have hgl := h.lt
  have hgwl := h.row
  have hbd := h.bound
  have HR := Lib.hid h
  have HK1 := Lib.hid (rkind_any S n d w h)
  obtain ⟨tot, htot⟩ : ∃ tot, tot = typeNameO S F n := ⟨_, rfl⟩
  have HDRY : Hid (tot ≠ .dry) := Lib.hid (by rw [htot]; exact hdry)
  rw [← htot]
  unfold typeNameO at htot
  have HTOT := Lib.hid htot
  clear h hdry htot
  cases h8 : (S.kd n == 8)
  · cases hp : S.is n [40]
    · have HEQ : Hid (tot = S.take [6] n) := Lib.hid (by rw [HTOT.out, h8, hp]; rfl)
      go_enter Tryz.func84, Tryz.ntmps84
      go_wp2_with fail
      refine HK1.out.mono ?_
      rintro e w2 ⟨rfl, hb2⟩
      have HP := Lib.hid (rpass_any S n d ⟨#[40]⟩ w2 (HR.out.step hb2) (by simp))
      simp only at HP
      rw [hp] at HP
      have HG2 := Lib.hid (grown_below hb2 (some S.g))
      clear hb2
      go_wp2_with fail
      refine HP.out.mono ?_
      rintro e w3 ⟨rfl, hr3, hg3⟩
      have HRX : Hid (Rd w3 S n d) := Lib.hid hr3
      have HGX := Lib.hid (grown_trans HG2.out hg3)
      clear hr3 hg3 HP
      have ht := take1 S (n) d 6 (by decide) w3 HRX.out
      have HT := Lib.hid ht
      clear ht
      go_wp2_with fail
      refine HT.out.mono ?_
      rintro e w9 (⟨m, n9, v, hpo, rfl, hv, hr, hg⟩ | ⟨ch, ho, rfl, hg⟩)
      · obtain rfl : v = .int .i64 (m : Int) := hv
        have hb : Below w9.heap.size w9 (w9.alloc (.cells #[.int .i64 (m : Int)] 3)) := (Below.refl _ _).alloc (Nat.le_refl _) _
        have hgg := grown_trans HGX.out hg
        have hown : (w9.alloc (.cells #[.int .i64 (m : Int)] 3)).ownsRow w.heap.size 3 1 (.slice (some ⟨w9.heap.size, 0, none⟩) 1 1) [m].length ([m].map mkN) := own_lit (heap_alloc_new w9 (.cells #[.int .i64 (m : Int)] 3)) hgg.size rfl (by unfold maxLen; omega)
        have HE := Lib.hid (And.intro (HEQ.out.trans hpo) (And.intro hown (And.intro (hr.step hb) (grown_trans hgg (grown_below hb (some S.g))))))
        clear hpo hr hg hb hgg hown
        go_wp2_with fail
        go_ret
        exact Or.inl ⟨m, n9, _, HE.out.1, rfl, HE.out.2.1, HE.out.2.2.1, HE.out.2.2.2⟩
      · exact ⟨rfl, Or.inr ⟨ch, by rw [HEQ.out]; exact ho, rfl, grown_trans HGX.out hg⟩⟩
    · have HEQ0 : Hid (tot = (S.take [8] (n + 1)).bind fun _ n1 => (varsL S F n1).bind fun _ n2 => (S.need [41] n2).bind fun _ n3 => S.take [6] n3) := Lib.hid (by rw [HTOT.out, h8, hp]; rfl)
      go_enter Tryz.func84, Tryz.ntmps84
      go_wp2_with fail
      refine HK1.out.mono ?_
      rintro e w2 ⟨rfl, hb2⟩
      have HP := Lib.hid (rpass_any S n d ⟨#[40]⟩ w2 (HR.out.step hb2) (by simp))
      simp only at HP
      rw [hp] at HP
      have HG2 := Lib.hid (grown_below hb2 (some S.g))
      clear hb2
      go_wp2_with fail
      refine HP.out.mono ?_
      rintro e w3 ⟨rfl, hr3, hg3⟩
      have HG3 := Lib.hid (grown_trans HG2.out hg3)
      have HT8 := Lib.hid (take1 S (n + 1) d 8 (by decide) w3 hr3)
      clear hr3 hg3 HP
      go_wp2_with fail
      refine HT8.out.mono ?_
      rintro e w4 (⟨m0, n4, v, hpo, rfl, hv, hr4, hg4⟩ | ⟨ch, ho, rfl, hg⟩)
      · obtain rfl : v = .int .i64 (m0 : Int) := hv
        have HL0 : Hid (tot = (varsL S F n4).bind fun _ n2 => (S.need [41] n2).bind fun _ n3 => S.take [6] n3) := Lib.hid (by rw [HEQ0.out, hpo, bind_ok])
        have HR4 := Lib.hid hr4
        have HG4 := Lib.hid (grown_trans HG3.out hg4)
        clear hpo hr4 hg4 HT8 h8 hp
        go_wp2_with fail
        go_loopg [] F (fun gk wr => ∃ i : Nat, Hid (tot = (varsL S gk i).bind fun _ n2 => (S.need [41] n2).bind fun _ n3 => S.take [6] n3) ∧ Hid (Rd wr S i d) ∧ w.grownBy wr (some S.g))
        case atStart => exact ⟨n4, HL0, HR4, HG4.out⟩
        case round =>
          obtain ⟨i, HL, HRr, hgr⟩ := hrel
          have HGR := Lib.hid hgr
          clear hgr
          cases gk with
          | zero => exact absurd HL.out (by intro e; exact HDRY.out e)
          | succ gk =>
          have hLs := HL.out
          simp only [varsL] at hLs
          have HLS := Lib.hid hLs
          have HP := Lib.hid (rpass_any S i d ⟨#[44]⟩ wr HRr.out (by simp))
          simp only at HP
          clear hLs HL
          cases hm : S.is i [44] <;> rw [hm] at HP
          · have HEQ1 : Hid (tot = (S.need [41] i).bind fun _ n3 => S.take [6] n3) := Lib.hid (by rw [HLS.out, hm]; rfl)
            clear hm HLS
            go_wp2_with fail
            refine HP.out.mono ?_
            rintro e w5 ⟨rfl, hr5, hg5⟩
            have HG5 := Lib.hid (grown_trans HGR.out hg5)
            have HN := Lib.hid (rneed_any S i d ⟨#[41]⟩ w5 hr5 (by simp))
            clear hr5 hg5 HP
            go_wp2_with fail
            refine HN.out.mono ?_
            rintro e w6 (⟨u, n6, v, hno, rfl, hv, hr6, hg6⟩ | ⟨ch, ho, rfl, hg6⟩)
            · obtain rfl : v = .tuple #[] := hv
              have HEQ : Hid (tot = S.take [6] n6) := Lib.hid (by rw [HEQ1.out]; rw [show S.need [41] i = .ok u n6 from hno, bind_ok])
              have HRX := Lib.hid hr6
              have HGX := Lib.hid (grown_trans HG5.out hg6)
              clear hno hr6 hg6 HN
              have ht := take1 S (n6) d 6 (by decide) w6 HRX.out
              have HT := Lib.hid ht
              clear ht
              go_wp2_with fail
              refine HT.out.mono ?_
              rintro e w9 (⟨m, n9, v, hpo, rfl, hv, hr, hg⟩ | ⟨ch, ho, rfl, hg⟩)
              · obtain rfl : v = .int .i64 (m : Int) := hv
                have hb : Below w9.heap.size w9 (w9.alloc (.cells #[.int .i64 (m : Int)] 3)) := (Below.refl _ _).alloc (Nat.le_refl _) _
                have hgg := grown_trans HGX.out hg
                have hown : (w9.alloc (.cells #[.int .i64 (m : Int)] 3)).ownsRow w.heap.size 3 1 (.slice (some ⟨w9.heap.size, 0, none⟩) 1 1) [m].length ([m].map mkN) := own_lit (heap_alloc_new w9 (.cells #[.int .i64 (m : Int)] 3)) hgg.size rfl (by unfold maxLen; omega)
                have HE := Lib.hid (And.intro (HEQ.out.trans hpo) (And.intro hown (And.intro (hr.step hb) (grown_trans hgg (grown_below hb (some S.g))))))
                clear hpo hr hg hb hgg hown
                go_wp2_with fail
                go_ret
                exact Or.inl ⟨m, n9, _, HE.out.1, rfl, HE.out.2.1, HE.out.2.2.1, HE.out.2.2.2⟩
              · exact ⟨rfl, Or.inr ⟨ch, by rw [HEQ.out]; exact ho, rfl, grown_trans HGX.out hg⟩⟩
            · exact ⟨rfl, Or.inr ⟨ch, by rw [HEQ1.out]; exact pan_bind ho, rfl, grown_trans HG5.out hg6⟩⟩
          · have HEQ1 : Hid (tot = ((S.take [8] (i + 1)).bind fun _ n1 => varsL S gk n1).bind fun _ n2 => (S.need [41] n2).bind fun _ n3 => S.take [6] n3) := Lib.hid (by rw [HLS.out, hm]; rfl)
            clear hm HLS
            go_wp2_with fail
            refine HP.out.mono ?_
            rintro e w5 ⟨rfl, hr5, hg5⟩
            have HG5 := Lib.hid (grown_trans HGR.out hg5)
            have HT9 := Lib.hid (take1 S (i + 1) d 8 (by decide) w5 hr5)
            clear hr5 hg5 HP
            go_wp2_with fail
            refine HT9.out.mono ?_
            rintro e w6 (⟨m1, n6, v, hpo, rfl, hv, hr6, hg6⟩ | ⟨ch, ho, rfl, hg6⟩)
            · obtain rfl : v = .int .i64 (m1 : Int) := hv
              have HL6 : Hid (tot = (varsL S gk n6).bind fun _ n2 => (S.need [41] n2).bind fun _ n3 => S.take [6] n3) := Lib.hid (by rw [HEQ1.out, hpo]; rfl)
              have HR6 := Lib.hid hr6
              have HG6 := Lib.hid (grown_trans HG5.out hg6)
              clear hpo hr6 hg6
              go_wp2_with fail
              go_roundg gk
              case measure => omega
              case rel => exact ⟨n6, HL6, HR6, HG6.out⟩
            · exact ⟨rfl, Or.inr ⟨ch, by rw [HEQ1.out]; exact pan_bind (pan_bind ho), rfl, grown_trans HG5.out hg6⟩⟩
      · exact ⟨rfl, Or.inr ⟨ch, by rw [HEQ0.out]; exact pan_bind ho, rfl, grown_trans HG3.out hg⟩⟩
  · have HEQ : Hid (tot = S.take [6] (n + 1)) := Lib.hid (by rw [HTOT.out, h8]; rfl)
    have hk0 : S.kd n ≠ 0 := by intro e; rw [e] at h8; cases h8
    go_enter Tryz.func84, Tryz.ntmps84
    go_wp2_with fail
    refine HK1.out.mono ?_
    rintro e w2 ⟨rfl, hb2⟩
    have hr2 := HR.out.step hb2
    have hmore := hr2.moreK hk0
    have HRX := Lib.hid (hr2.bump hmore)
    have d2 := hr2.c2
    have fz2 := hr2.free 2
    have HGX := Lib.hid (grown_trans (grown_below hb2 (some S.g)) (grown_set S.g 2 (.int .i64 ((n : Int) + 1))))
    clear hr2 hb2 hk0
    have ht := take1 S (n + 1) d 6 (by decide) _ HRX.out
    rw [show (w2.setCell ⟨S.g, 2, none⟩ (.int .i64 ((n : Int) + 1))).heap.size = w2.heap.size from by simp] at ht
    have HT := Lib.hid ht
    clear ht
    go_wp2_with fail
    refine HT.out.mono ?_
    rintro e w9 (⟨m, n9, v, hpo, rfl, hv, hr, hg⟩ | ⟨ch, ho, rfl, hg⟩)
    · obtain rfl : v = .int .i64 (m : Int) := hv
      have hb : Below w9.heap.size w9 (w9.alloc (.cells #[.int .i64 (m : Int)] 3)) := (Below.refl _ _).alloc (Nat.le_refl _) _
      have hgg := grown_trans HGX.out hg
      have hown : (w9.alloc (.cells #[.int .i64 (m : Int)] 3)).ownsRow w.heap.size 3 1 (.slice (some ⟨w9.heap.size, 0, none⟩) 1 1) [m].length ([m].map mkN) := own_lit (heap_alloc_new w9 (.cells #[.int .i64 (m : Int)] 3)) hgg.size rfl (by unfold maxLen; omega)
      have HE := Lib.hid (And.intro (HEQ.out.trans hpo) (And.intro hown (And.intro (hr.step hb) (grown_trans hgg (grown_below hb (some S.g))))))
      clear hpo hr hg hb hgg hown
      go_wp2_with fail
      go_ret
      exact Or.inl ⟨m, n9, _, HE.out.1, rfl, HE.out.2.1, HE.out.2.2.1, HE.out.2.2.2⟩
    · exact ⟨rfl, Or.inr ⟨ch, by rw [HEQ.out]; exact ho, rfl, grown_trans HGX.out hg⟩⟩
end Go.Proofs.YtkjgkchdkeggoaaGreatDoor

namespace Go.Proofs.YtkjgkchdkeggoaaGreatDoor
open Go.RowKit
set_option maxRecDepth 20000
set_option linter.unusedVariables false
set_option linter.unusedSimpArgs false

theorem cf109 (args : Array Value) (w : World) : Sem.run Tryz.prog (callFunc 109 args) w = .ok (.enter 109 args) w := cf_enter Tryz.func109 (by kernel_rfl) (by kernel_rfl) args w
set_option maxHeartbeats 2000000 in
theorem datatypes_any (S : Src) (F : Nat) (rec : Nt → Nat → Nat → Out Pb) (d fr : Nat) (hF : F ≤ 1000000000) (n : Nat) (w : World) (h : Rd w S n d)
    (hD : ∀ k w', Rd w' S k d → dbindO S F rec d k ≠ .dry → Calls Tryz.prog 109 #[.pointer (some ⟨S.g, 0, none⟩)] w' fun e w'' => Ends S d w' (dbindO S F rec d k) (RB w') e w'')
    (hdry : datatypesO S F rec d fr n ≠ .dry) :
    Calls Tryz.prog 85 #[.pointer (some ⟨S.g, 0, none⟩), .int .i64 (fr : Int)] w fun e w' => Ends S d w (datatypesO S F rec d fr n) (RB w) e w' := by
  have hgl := h.lt
  have hgwl := h.row
  have hb1 : Below w.heap.size w (w.alloc boxZ) := (Below.refl w.heap.size w).alloc (Nat.le_refl _) _
  have hr1 := h.step hb1
  have q2 := hr1.c2
  unfold datatypesO at hdry ⊢
  have HW := Lib.hid (rrow_any 109 #[] cf109 S F n d ⟨#[97, 110, 100]⟩ (dbindO S F rec d) _ hr1 (by simp) hF (fun k w' hr _ hnd => hD k w' hr hnd) (bind_dry hdry))
  obtain ⟨tot, htot⟩ : ∃ tot, tot = ((rowO S F [97, 110, 100] (dbindO S F rec d) n).bind fun l n1 => Out.ok (node 7 fr n1 [] l) n1) := ⟨_, rfl⟩
  rw [← htot]
  have HTOT := Lib.hid htot
  clear hr1 hb1 h hdry hD htot
  go_enter Tryz.func85, Tryz.ntmps85
  go_wp2_with fail
  refine HW.out.mono ?_
  rintro e w4 (⟨l, n4, v, hpo, rfl, ⟨ys, hown, hK, hmap⟩, hr4, hg4⟩ | ⟨ch, ho, rfl, hg4⟩)
  · obtain ⟨kp, kc, rfl⟩ := own_form hown
    have HG5 := Lib.hid hg4
    have HO5 := Lib.hid (own_base (base' := w.heap.size + 1) hown (by simp))
    have HK5 : Hid (Kids (w.heap.size + 1) (.slice kp ys.length kc) w4 ys) := Lib.hid (fun y hy => ⟨(hK y hy).1, (hK y hy).2.mono (fun q hq => ⟨by have := hq.1; simpa using this, hq.2⟩) _⟩)
    have HEQ : Hid (tot = .ok (node 7 fr n4 [] l) n4) := Lib.hid (by rw [HTOT.out, hpo, bind_ok])
    have HMAP := Lib.hid hmap
    have HR5 := Lib.hid hr4
    have HB := Lib.hid (rbranch_any S n4 d 7 fr none 0 0 kp ys.length kc w4 hr4)
    clear hpo hown hK hmap hr4 hg4
    obtain ⟨nl, hnl⟩ : ∃ nl, nl = ys.length := ⟨_, rfl⟩
    have HNL := Lib.hid hnl
    rw [← hnl] at HO5 HK5 HB ⊢
    clear hnl
    go_wp2_with fail
    refine HB.out.mono ?_
    rintro e w7 ⟨rfl, hb7⟩
    have HL := node_lies (w0 := w) (w1 := w) (N := w.heap.size + 1) 7 0 fr n4 (names_none (w := w7)) (by rw [← HNL.out]; exact ownsRow_below HO5.out hb7) (HK5.out.step hb7)
    have FIN := Lib.hid (fin_box (o := tot) (node 7 fr n4 [] l) 7 0 fr n4 none 0 0 _ kp nl kc ys (HR5.out.step hb7) (grown_trans HG5.out (grown_below hb7 _)) hgl hgwl HEQ.out HL.1 HL.2 (by rw [← HMAP.out]; simp [Br.pb, pbs_map, node]))
    clear HL hb7
    have c0 := FIN.out.c0
    have c1 := FIN.out.c1
    have c2 := FIN.out.c2
    have c3 := FIN.out.c3
    have c4 := FIN.out.c4
    have c5 := FIN.out.c5
    have f0 := FIN.out.fz 0
    have f1 := FIN.out.fz 1
    have f2 := FIN.out.fz 2
    have f3 := FIN.out.fz 3
    have f4 := FIN.out.fz 4
    have f5 := FIN.out.fz 5
    go_wp2_with fail
    obtain ⟨_, _, _, _, _, _, _, d0, d1, d2, d3, d4, d5, hfin⟩ := FIN.out
    refine bodyPost_ret (by simp [results, Tryz.results85, go_sem, d0, d1, d2, d3, d4, d5, Result.andThen]; try rfl) rfl ?_
    exact hfin
  · exact ⟨rfl, Or.inr ⟨ch, by rw [HTOT.out]; exact pan_bind ho, rfl, grown_trans (grown_below ((Below.refl _ _).alloc (Nat.le_refl _) _) _) hg4⟩⟩
end Go.Proofs.YtkjgkchdkeggoaaGreatDoor
