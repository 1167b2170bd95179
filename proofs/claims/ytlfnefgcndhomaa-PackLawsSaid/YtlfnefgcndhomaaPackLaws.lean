/-
  The walk of PackLaws. (The main walk was laid by a program, call by call; each part behind a comparison is an auxiliary lemma: else the kernel runs out of memory.)
-/
import Derived.Test.YtlfnefgcndhomaaSet
import Derived.Test.YtlfnefgcndhomaaAlive
namespace Go.Proofs.Ytlfnefgcndhomaa
open Go.RowKit
set_option linter.unusedVariables false

theorem lst_add (s t : Nat → Bool) : (lst fun x => s x && !t x).length + (lst t).length = (lst fun x => s x || t x).length := by
  unfold lst
  simp only [List.length_map]
  generalize List.range 65536 = l
  induction l with
  | nil => rfl
  | cons x r ih =>
    simp only [List.filter_cons]
    cases s x <;> cases t x <;> simp <;> omega

theorem packLaws_long (p p' p'' : Option Addr) (n c n' c' n'' c'' : Nat) (w : World) (hn : n ≤ 9223372036854775807) (hn' : n' ≤ 9223372036854775807) (hn'' : n'' ≤ 9223372036854775807) (h : 100 < n ∨ 100 < n' ∨ 100 < n'') :
    Calls Try.prog 9 #[.slice p n c, .slice p' n' c', .slice p'' n'' c''] w fun e w' => e = .returned (.bool true) ∧ Below w.heap.size w w' := by
  by_cases h1 : 100 < n
  · clear h
    go_enter Try.func9, Try.ntmps9
    go_wp2_with (go_at_call 12; refine (alive_any _).mono ?_; rintro e w1 ⟨rfl, hb⟩)
    go_ret
    exact ⟨rfl, hb⟩
  · by_cases h2 : 100 < n'
    · clear h
      go_enter Try.func9, Try.ntmps9
      go_wp2_with (go_at_call 12; refine (alive_any _).mono ?_; rintro e w1 ⟨rfl, hb⟩)
      go_ret
      exact ⟨rfl, hb⟩
    · have h3 : 100 < n'' := by omega
      clear h
      go_enter Try.func9, Try.ntmps9
      go_wp2_with (go_at_call 12; refine (alive_any _).mono ?_; rintro e w1 ⟨rfl, hb⟩)
      go_ret
      exact ⟨rfl, hb⟩

set_option maxRecDepth 100000 in
set_option maxHeartbeats 4000000 in
theorem packLaws_short (p p' p'' : Option Addr) (n c n' c' n'' c'' : Nat) (a b d : List Int) (w : World) (ha : In mkI w p n c a) (hb : In mkI w p' n' c' b) (hd : In mkI w p'' n'' c'' d) (hn : n ≤ 100) (hn' : n' ≤ 100) (hn'' : n'' ≤ 100) :
    Calls Try.prog 9 #[.slice p n c, .slice p' n' c', .slice p'' n'' c''] w fun e w' => e = .returned (.bool true) ∧ Below w.heap.size w w' := by
  have HA := Lib.hid ha
  have HB := Lib.hid hb
  have HC := Lib.hid hd
  have B0 := Lib.hid (Below.refl w.heap.size w)
  have hs0 : w.heap.size ≤ w.heap.size := Nat.le_refl _
  clear ha hb hd
  go_enter Try.func9, Try.ntmps9
  go_wp2_with fail
  refine (sOf p n c a w (HA.out.step B0.out) (by omega)).mono ?_
  rintro e w1 ⟨q1, n1, c1, rfl, h1, hb1⟩
  have Fx_1 := Lib.hid h1
  clear h1
  have B1 := Lib.hid (B0.out.trans (hb1.mono hs0))
  have hs1 : w.heap.size ≤ w1.heap.size := B1.out.size
  clear B0 hb1
  go_wp2_with fail
  refine (sOf p' n' c' b w1 (HB.out.step B1.out) (by omega)).mono ?_
  rintro e w2 ⟨q2, n2, c2, rfl, h2, hb2⟩
  have Fy_2 := Lib.hid h2
  clear h2
  have Fx_2 := Lib.hid (Fx_1.out.step hb2)
  clear Fx_1
  have B2 := Lib.hid (B1.out.trans (hb2.mono hs1))
  have hs2 : w.heap.size ≤ w2.heap.size := B2.out.size
  clear B1 hb2
  go_wp2_with fail
  refine (sOf p'' n'' c'' d w2 (HC.out.step B2.out) (by omega)).mono ?_
  rintro e w3 ⟨q3, n3, c3, rfl, h3, hb3⟩
  have Fz_3 := Lib.hid h3
  clear h3
  have Fx_3 := Lib.hid (Fx_2.out.step hb3)
  clear Fx_2
  have Fy_3 := Lib.hid (Fy_2.out.step hb3)
  clear Fy_2
  have B3 := Lib.hid (B2.out.trans (hb3.mono hs2))
  have hs3 : w.heap.size ≤ w3.heap.size := B3.out.size
  clear B2 hb3
  generalize (fun v : Nat => decide ((v : Int) ∈ a)) = sx at *
  generalize (fun v : Nat => decide ((v : Int) ∈ b)) = sy at *
  generalize (fun v : Nat => decide ((v : Int) ∈ d)) = sz at *
  go_wp2_with fail
  refine (sJoin q1 q2 n1 c1 n2 c2 _ _ w3 Fx_3.out Fy_3.out).mono ?_
  rintro e w4 ⟨q4, n4, c4, rfl, h4, hb4⟩
  have Ft1_4 := Lib.hid h4
  clear h4
  have Fx_4 := Lib.hid (Fx_3.out.step hb4)
  clear Fx_3
  have Fy_4 := Lib.hid (Fy_3.out.step hb4)
  clear Fy_3
  have Fz_4 := Lib.hid (Fz_3.out.step hb4)
  clear Fz_3
  have B4 := Lib.hid (B3.out.trans (hb4.mono hs3))
  have hs4 : w.heap.size ≤ w4.heap.size := B4.out.size
  clear B3 hb4
  go_wp2_with fail
  refine (sList q4 n4 c4 _ w4 Ft1_4.out).mono ?_
  rintro e w5 ⟨q5, n5, c5, rfl, h5, hb5⟩
  have Fl1_5 := Lib.hid h5
  clear h5
  clear Ft1_4
  have Fx_5 := Lib.hid (Fx_4.out.step hb5)
  clear Fx_4
  have Fy_5 := Lib.hid (Fy_4.out.step hb5)
  clear Fy_4
  have Fz_5 := Lib.hid (Fz_4.out.step hb5)
  clear Fz_4
  have B5 := Lib.hid (B4.out.trans (hb5.mono hs4))
  have hs5 : w.heap.size ≤ w5.heap.size := B5.out.size
  clear B4 hb5
  go_wp2_with fail
  refine (sJoin q2 q1 n2 c2 n1 c1 _ _ w5 Fy_5.out Fx_5.out).mono ?_
  rintro e w6 ⟨q6, n6, c6, rfl, h6, hb6⟩
  have Ft2_6 := Lib.hid h6
  clear h6
  have Fx_6 := Lib.hid (Fx_5.out.step hb6)
  clear Fx_5
  have Fy_6 := Lib.hid (Fy_5.out.step hb6)
  clear Fy_5
  have Fz_6 := Lib.hid (Fz_5.out.step hb6)
  clear Fz_5
  have Fl1_6 := Lib.hid (Fl1_5.out.step hb6)
  clear Fl1_5
  have B6 := Lib.hid (B5.out.trans (hb6.mono hs5))
  have hs6 : w.heap.size ≤ w6.heap.size := B6.out.size
  clear B5 hb6
  go_wp2_with fail
  refine (sList q6 n6 c6 _ w6 Ft2_6.out).mono ?_
  rintro e w7 ⟨q7, n7, c7, rfl, h7, hb7⟩
  have Fl2_7 := Lib.hid h7
  clear h7
  clear Ft2_6
  have Fx_7 := Lib.hid (Fx_6.out.step hb7)
  clear Fx_6
  have Fy_7 := Lib.hid (Fy_6.out.step hb7)
  clear Fy_6
  have Fz_7 := Lib.hid (Fz_6.out.step hb7)
  clear Fz_6
  have Fl1_7 := Lib.hid (Fl1_6.out.step hb7)
  clear Fl1_6
  have B7 := Lib.hid (B6.out.trans (hb7.mono hs6))
  have hs7 : w.heap.size ≤ w7.heap.size := B7.out.size
  clear B6 hb7
  go_wp2_with fail
  refine (sInts q5 q7 n5 c5 n7 c7 _ _ w7 Fl1_7.out Fl2_7.out (by intro v; (first | rfl | (cases sx v <;> cases sy v <;> rfl) | (cases sx v <;> cases sy v <;> cases sz v <;> rfl)))).mono ?_
  rintro e w8 ⟨rfl, hb8⟩
  clear Fl1_7
  clear Fl2_7
  have Fx_8 := Lib.hid (Fx_7.out.step hb8)
  clear Fx_7
  have Fy_8 := Lib.hid (Fy_7.out.step hb8)
  clear Fy_7
  have Fz_8 := Lib.hid (Fz_7.out.step hb8)
  clear Fz_7
  have B8 := Lib.hid (B7.out.trans (hb8.mono hs7))
  have hs8 : w.heap.size ≤ w8.heap.size := B8.out.size
  clear B7 hb8
  as_aux_lemma =>
    go_wp2_with fail
    refine (sJoin q1 q2 n1 c1 n2 c2 _ _ w8 Fx_8.out Fy_8.out).mono ?_
    rintro e w9 ⟨q9, n9, c9, rfl, h9, hb9⟩
    have Ft1_9 := Lib.hid h9
    clear h9
    have Fx_9 := Lib.hid (Fx_8.out.step hb9)
    clear Fx_8
    have Fy_9 := Lib.hid (Fy_8.out.step hb9)
    clear Fy_8
    have Fz_9 := Lib.hid (Fz_8.out.step hb9)
    clear Fz_8
    have B9 := Lib.hid (B8.out.trans (hb9.mono hs8))
    have hs9 : w.heap.size ≤ w9.heap.size := B9.out.size
    clear B8 hb9
    go_wp2_with fail
    refine (sJoin q9 q3 n9 c9 n3 c3 _ _ w9 Ft1_9.out Fz_9.out).mono ?_
    rintro e w10 ⟨q10, n10, c10, rfl, h10, hb10⟩
    have Ft2_10 := Lib.hid h10
    clear h10
    clear Ft1_9
    have Fx_10 := Lib.hid (Fx_9.out.step hb10)
    clear Fx_9
    have Fy_10 := Lib.hid (Fy_9.out.step hb10)
    clear Fy_9
    have Fz_10 := Lib.hid (Fz_9.out.step hb10)
    clear Fz_9
    have B10 := Lib.hid (B9.out.trans (hb10.mono hs9))
    have hs10 : w.heap.size ≤ w10.heap.size := B10.out.size
    clear B9 hb10
    go_wp2_with fail
    refine (sList q10 n10 c10 _ w10 Ft2_10.out).mono ?_
    rintro e w11 ⟨q11, n11, c11, rfl, h11, hb11⟩
    have Fl1_11 := Lib.hid h11
    clear h11
    clear Ft2_10
    have Fx_11 := Lib.hid (Fx_10.out.step hb11)
    clear Fx_10
    have Fy_11 := Lib.hid (Fy_10.out.step hb11)
    clear Fy_10
    have Fz_11 := Lib.hid (Fz_10.out.step hb11)
    clear Fz_10
    have B11 := Lib.hid (B10.out.trans (hb11.mono hs10))
    have hs11 : w.heap.size ≤ w11.heap.size := B11.out.size
    clear B10 hb11
    go_wp2_with fail
    refine (sJoin q2 q3 n2 c2 n3 c3 _ _ w11 Fy_11.out Fz_11.out).mono ?_
    rintro e w12 ⟨q12, n12, c12, rfl, h12, hb12⟩
    have Ft1_12 := Lib.hid h12
    clear h12
    have Fx_12 := Lib.hid (Fx_11.out.step hb12)
    clear Fx_11
    have Fy_12 := Lib.hid (Fy_11.out.step hb12)
    clear Fy_11
    have Fz_12 := Lib.hid (Fz_11.out.step hb12)
    clear Fz_11
    have Fl1_12 := Lib.hid (Fl1_11.out.step hb12)
    clear Fl1_11
    have B12 := Lib.hid (B11.out.trans (hb12.mono hs11))
    have hs12 : w.heap.size ≤ w12.heap.size := B12.out.size
    clear B11 hb12
    go_wp2_with fail
    refine (sJoin q1 q12 n1 c1 n12 c12 _ _ w12 Fx_12.out Ft1_12.out).mono ?_
    rintro e w13 ⟨q13, n13, c13, rfl, h13, hb13⟩
    have Ft2_13 := Lib.hid h13
    clear h13
    clear Ft1_12
    have Fx_13 := Lib.hid (Fx_12.out.step hb13)
    clear Fx_12
    have Fy_13 := Lib.hid (Fy_12.out.step hb13)
    clear Fy_12
    have Fz_13 := Lib.hid (Fz_12.out.step hb13)
    clear Fz_12
    have Fl1_13 := Lib.hid (Fl1_12.out.step hb13)
    clear Fl1_12
    have B13 := Lib.hid (B12.out.trans (hb13.mono hs12))
    have hs13 : w.heap.size ≤ w13.heap.size := B13.out.size
    clear B12 hb13
    go_wp2_with fail
    refine (sList q13 n13 c13 _ w13 Ft2_13.out).mono ?_
    rintro e w14 ⟨q14, n14, c14, rfl, h14, hb14⟩
    have Fl2_14 := Lib.hid h14
    clear h14
    clear Ft2_13
    have Fx_14 := Lib.hid (Fx_13.out.step hb14)
    clear Fx_13
    have Fy_14 := Lib.hid (Fy_13.out.step hb14)
    clear Fy_13
    have Fz_14 := Lib.hid (Fz_13.out.step hb14)
    clear Fz_13
    have Fl1_14 := Lib.hid (Fl1_13.out.step hb14)
    clear Fl1_13
    have B14 := Lib.hid (B13.out.trans (hb14.mono hs13))
    have hs14 : w.heap.size ≤ w14.heap.size := B14.out.size
    clear B13 hb14
    go_wp2_with fail
    refine (sInts q11 q14 n11 c11 n14 c14 _ _ w14 Fl1_14.out Fl2_14.out (by intro v; (first | rfl | (cases sx v <;> cases sy v <;> rfl) | (cases sx v <;> cases sy v <;> cases sz v <;> rfl)))).mono ?_
    rintro e w15 ⟨rfl, hb15⟩
    clear Fl1_14
    clear Fl2_14
    have Fx_15 := Lib.hid (Fx_14.out.step hb15)
    clear Fx_14
    have Fy_15 := Lib.hid (Fy_14.out.step hb15)
    clear Fy_14
    have Fz_15 := Lib.hid (Fz_14.out.step hb15)
    clear Fz_14
    have B15 := Lib.hid (B14.out.trans (hb15.mono hs14))
    have hs15 : w.heap.size ≤ w15.heap.size := B15.out.size
    clear B14 hb15
    as_aux_lemma =>
      go_wp2_with fail
      refine (sJoin q1 q1 n1 c1 n1 c1 _ _ w15 Fx_15.out Fx_15.out).mono ?_
      rintro e w16 ⟨q16, n16, c16, rfl, h16, hb16⟩
      have Ft1_16 := Lib.hid h16
      clear h16
      have Fx_16 := Lib.hid (Fx_15.out.step hb16)
      clear Fx_15
      have Fy_16 := Lib.hid (Fy_15.out.step hb16)
      clear Fy_15
      have Fz_16 := Lib.hid (Fz_15.out.step hb16)
      clear Fz_15
      have B16 := Lib.hid (B15.out.trans (hb16.mono hs15))
      have hs16 : w.heap.size ≤ w16.heap.size := B16.out.size
      clear B15 hb16
      go_wp2_with fail
      refine (sList q16 n16 c16 _ w16 Ft1_16.out).mono ?_
      rintro e w17 ⟨q17, n17, c17, rfl, h17, hb17⟩
      have Fl1_17 := Lib.hid h17
      clear h17
      clear Ft1_16
      have Fx_17 := Lib.hid (Fx_16.out.step hb17)
      clear Fx_16
      have Fy_17 := Lib.hid (Fy_16.out.step hb17)
      clear Fy_16
      have Fz_17 := Lib.hid (Fz_16.out.step hb17)
      clear Fz_16
      have B17 := Lib.hid (B16.out.trans (hb17.mono hs16))
      have hs17 : w.heap.size ≤ w17.heap.size := B17.out.size
      clear B16 hb17
      go_wp2_with fail
      refine (sList q1 n1 c1 _ w17 Fx_17.out).mono ?_
      rintro e w18 ⟨q18, n18, c18, rfl, h18, hb18⟩
      have Fl2_18 := Lib.hid h18
      clear h18
      have Fx_18 := Lib.hid (Fx_17.out.step hb18)
      clear Fx_17
      have Fy_18 := Lib.hid (Fy_17.out.step hb18)
      clear Fy_17
      have Fz_18 := Lib.hid (Fz_17.out.step hb18)
      clear Fz_17
      have Fl1_18 := Lib.hid (Fl1_17.out.step hb18)
      clear Fl1_17
      have B18 := Lib.hid (B17.out.trans (hb18.mono hs17))
      have hs18 : w.heap.size ≤ w18.heap.size := B18.out.size
      clear B17 hb18
      go_wp2_with fail
      refine (sInts q17 q18 n17 c17 n18 c18 _ _ w18 Fl1_18.out Fl2_18.out (by intro v; (first | rfl | (cases sx v <;> cases sy v <;> rfl) | (cases sx v <;> cases sy v <;> cases sz v <;> rfl)))).mono ?_
      rintro e w19 ⟨rfl, hb19⟩
      clear Fl1_18
      clear Fl2_18
      have Fx_19 := Lib.hid (Fx_18.out.step hb19)
      clear Fx_18
      have Fy_19 := Lib.hid (Fy_18.out.step hb19)
      clear Fy_18
      have Fz_19 := Lib.hid (Fz_18.out.step hb19)
      clear Fz_18
      have B19 := Lib.hid (B18.out.trans (hb19.mono hs18))
      have hs19 : w.heap.size ≤ w19.heap.size := B19.out.size
      clear B18 hb19
      as_aux_lemma =>
        go_wp2_with fail
        refine (sRest q1 q2 n1 c1 n2 c2 _ _ w19 Fx_19.out Fy_19.out).mono ?_
        rintro e w20 ⟨q20, n20, c20, rfl, h20, hb20⟩
        have Ft1_20 := Lib.hid h20
        clear h20
        have Fx_20 := Lib.hid (Fx_19.out.step hb20)
        clear Fx_19
        have Fy_20 := Lib.hid (Fy_19.out.step hb20)
        clear Fy_19
        have Fz_20 := Lib.hid (Fz_19.out.step hb20)
        clear Fz_19
        have B20 := Lib.hid (B19.out.trans (hb20.mono hs19))
        have hs20 : w.heap.size ≤ w20.heap.size := B20.out.size
        clear B19 hb20
        go_wp2_with fail
        refine (sRest q20 q3 n20 c20 n3 c3 _ _ w20 Ft1_20.out Fz_20.out).mono ?_
        rintro e w21 ⟨q21, n21, c21, rfl, h21, hb21⟩
        have Ft2_21 := Lib.hid h21
        clear h21
        clear Ft1_20
        have Fx_21 := Lib.hid (Fx_20.out.step hb21)
        clear Fx_20
        have Fy_21 := Lib.hid (Fy_20.out.step hb21)
        clear Fy_20
        have Fz_21 := Lib.hid (Fz_20.out.step hb21)
        clear Fz_20
        have B21 := Lib.hid (B20.out.trans (hb21.mono hs20))
        have hs21 : w.heap.size ≤ w21.heap.size := B21.out.size
        clear B20 hb21
        go_wp2_with fail
        refine (sList q21 n21 c21 _ w21 Ft2_21.out).mono ?_
        rintro e w22 ⟨q22, n22, c22, rfl, h22, hb22⟩
        have Fl1_22 := Lib.hid h22
        clear h22
        clear Ft2_21
        have Fx_22 := Lib.hid (Fx_21.out.step hb22)
        clear Fx_21
        have Fy_22 := Lib.hid (Fy_21.out.step hb22)
        clear Fy_21
        have Fz_22 := Lib.hid (Fz_21.out.step hb22)
        clear Fz_21
        have B22 := Lib.hid (B21.out.trans (hb22.mono hs21))
        have hs22 : w.heap.size ≤ w22.heap.size := B22.out.size
        clear B21 hb22
        go_wp2_with fail
        refine (sJoin q2 q3 n2 c2 n3 c3 _ _ w22 Fy_22.out Fz_22.out).mono ?_
        rintro e w23 ⟨q23, n23, c23, rfl, h23, hb23⟩
        have Ft1_23 := Lib.hid h23
        clear h23
        have Fx_23 := Lib.hid (Fx_22.out.step hb23)
        clear Fx_22
        have Fy_23 := Lib.hid (Fy_22.out.step hb23)
        clear Fy_22
        have Fz_23 := Lib.hid (Fz_22.out.step hb23)
        clear Fz_22
        have Fl1_23 := Lib.hid (Fl1_22.out.step hb23)
        clear Fl1_22
        have B23 := Lib.hid (B22.out.trans (hb23.mono hs22))
        have hs23 : w.heap.size ≤ w23.heap.size := B23.out.size
        clear B22 hb23
        go_wp2_with fail
        refine (sRest q1 q23 n1 c1 n23 c23 _ _ w23 Fx_23.out Ft1_23.out).mono ?_
        rintro e w24 ⟨q24, n24, c24, rfl, h24, hb24⟩
        have Ft2_24 := Lib.hid h24
        clear h24
        clear Ft1_23
        have Fx_24 := Lib.hid (Fx_23.out.step hb24)
        clear Fx_23
        have Fy_24 := Lib.hid (Fy_23.out.step hb24)
        clear Fy_23
        have Fz_24 := Lib.hid (Fz_23.out.step hb24)
        clear Fz_23
        have Fl1_24 := Lib.hid (Fl1_23.out.step hb24)
        clear Fl1_23
        have B24 := Lib.hid (B23.out.trans (hb24.mono hs23))
        have hs24 : w.heap.size ≤ w24.heap.size := B24.out.size
        clear B23 hb24
        go_wp2_with fail
        refine (sList q24 n24 c24 _ w24 Ft2_24.out).mono ?_
        rintro e w25 ⟨q25, n25, c25, rfl, h25, hb25⟩
        have Fl2_25 := Lib.hid h25
        clear h25
        clear Ft2_24
        have Fx_25 := Lib.hid (Fx_24.out.step hb25)
        clear Fx_24
        have Fy_25 := Lib.hid (Fy_24.out.step hb25)
        clear Fy_24
        have Fz_25 := Lib.hid (Fz_24.out.step hb25)
        clear Fz_24
        have Fl1_25 := Lib.hid (Fl1_24.out.step hb25)
        clear Fl1_24
        have B25 := Lib.hid (B24.out.trans (hb25.mono hs24))
        have hs25 : w.heap.size ≤ w25.heap.size := B25.out.size
        clear B24 hb25
        go_wp2_with fail
        refine (sInts q22 q25 n22 c22 n25 c25 _ _ w25 Fl1_25.out Fl2_25.out (by intro v; (first | rfl | (cases sx v <;> cases sy v <;> rfl) | (cases sx v <;> cases sy v <;> cases sz v <;> rfl)))).mono ?_
        rintro e w26 ⟨rfl, hb26⟩
        clear Fl1_25
        clear Fl2_25
        have Fx_26 := Lib.hid (Fx_25.out.step hb26)
        clear Fx_25
        have Fy_26 := Lib.hid (Fy_25.out.step hb26)
        clear Fy_25
        have Fz_26 := Lib.hid (Fz_25.out.step hb26)
        clear Fz_25
        have B26 := Lib.hid (B25.out.trans (hb26.mono hs25))
        have hs26 : w.heap.size ≤ w26.heap.size := B26.out.size
        clear B25 hb26
        as_aux_lemma =>
          go_wp2_with fail
          refine (sRest q1 q2 n1 c1 n2 c2 _ _ w26 Fx_26.out Fy_26.out).mono ?_
          rintro e w27 ⟨q27, n27, c27, rfl, h27, hb27⟩
          have Ft1_27 := Lib.hid h27
          clear h27
          have Fx_27 := Lib.hid (Fx_26.out.step hb27)
          clear Fx_26
          have Fy_27 := Lib.hid (Fy_26.out.step hb27)
          clear Fy_26
          have Fz_27 := Lib.hid (Fz_26.out.step hb27)
          clear Fz_26
          have B27 := Lib.hid (B26.out.trans (hb27.mono hs26))
          have hs27 : w.heap.size ≤ w27.heap.size := B27.out.size
          clear B26 hb27
          go_wp2_with fail
          refine (sJoin q27 q2 n27 c27 n2 c2 _ _ w27 Ft1_27.out Fy_27.out).mono ?_
          rintro e w28 ⟨q28, n28, c28, rfl, h28, hb28⟩
          have Ft2_28 := Lib.hid h28
          clear h28
          clear Ft1_27
          have Fx_28 := Lib.hid (Fx_27.out.step hb28)
          clear Fx_27
          have Fy_28 := Lib.hid (Fy_27.out.step hb28)
          clear Fy_27
          have Fz_28 := Lib.hid (Fz_27.out.step hb28)
          clear Fz_27
          have B28 := Lib.hid (B27.out.trans (hb28.mono hs27))
          have hs28 : w.heap.size ≤ w28.heap.size := B28.out.size
          clear B27 hb28
          go_wp2_with fail
          refine (sList q28 n28 c28 _ w28 Ft2_28.out).mono ?_
          rintro e w29 ⟨q29, n29, c29, rfl, h29, hb29⟩
          have Fl1_29 := Lib.hid h29
          clear h29
          clear Ft2_28
          have Fx_29 := Lib.hid (Fx_28.out.step hb29)
          clear Fx_28
          have Fy_29 := Lib.hid (Fy_28.out.step hb29)
          clear Fy_28
          have Fz_29 := Lib.hid (Fz_28.out.step hb29)
          clear Fz_28
          have B29 := Lib.hid (B28.out.trans (hb29.mono hs28))
          have hs29 : w.heap.size ≤ w29.heap.size := B29.out.size
          clear B28 hb29
          go_wp2_with fail
          refine (sJoin q1 q2 n1 c1 n2 c2 _ _ w29 Fx_29.out Fy_29.out).mono ?_
          rintro e w30 ⟨q30, n30, c30, rfl, h30, hb30⟩
          have Ft1_30 := Lib.hid h30
          clear h30
          have Fx_30 := Lib.hid (Fx_29.out.step hb30)
          clear Fx_29
          have Fy_30 := Lib.hid (Fy_29.out.step hb30)
          clear Fy_29
          have Fz_30 := Lib.hid (Fz_29.out.step hb30)
          clear Fz_29
          have Fl1_30 := Lib.hid (Fl1_29.out.step hb30)
          clear Fl1_29
          have B30 := Lib.hid (B29.out.trans (hb30.mono hs29))
          have hs30 : w.heap.size ≤ w30.heap.size := B30.out.size
          clear B29 hb30
          go_wp2_with fail
          refine (sList q30 n30 c30 _ w30 Ft1_30.out).mono ?_
          rintro e w31 ⟨q31, n31, c31, rfl, h31, hb31⟩
          have Fl2_31 := Lib.hid h31
          clear h31
          clear Ft1_30
          have Fx_31 := Lib.hid (Fx_30.out.step hb31)
          clear Fx_30
          have Fy_31 := Lib.hid (Fy_30.out.step hb31)
          clear Fy_30
          have Fz_31 := Lib.hid (Fz_30.out.step hb31)
          clear Fz_30
          have Fl1_31 := Lib.hid (Fl1_30.out.step hb31)
          clear Fl1_30
          have B31 := Lib.hid (B30.out.trans (hb31.mono hs30))
          have hs31 : w.heap.size ≤ w31.heap.size := B31.out.size
          clear B30 hb31
          go_wp2_with fail
          refine (sInts q29 q31 n29 c29 n31 c31 _ _ w31 Fl1_31.out Fl2_31.out (by intro v; (first | rfl | (cases sx v <;> cases sy v <;> rfl) | (cases sx v <;> cases sy v <;> cases sz v <;> rfl)))).mono ?_
          rintro e w32 ⟨rfl, hb32⟩
          clear Fl1_31
          clear Fl2_31
          have Fx_32 := Lib.hid (Fx_31.out.step hb32)
          clear Fx_31
          have Fy_32 := Lib.hid (Fy_31.out.step hb32)
          clear Fy_31
          have Fz_32 := Lib.hid (Fz_31.out.step hb32)
          clear Fz_31
          have B32 := Lib.hid (B31.out.trans (hb32.mono hs31))
          have hs32 : w.heap.size ≤ w32.heap.size := B32.out.size
          clear B31 hb32
          as_aux_lemma =>
            go_wp2_with fail
            refine (sRest q1 q2 n1 c1 n2 c2 _ _ w32 Fx_32.out Fy_32.out).mono ?_
            rintro e w33 ⟨q33, n33, c33, rfl, h33, hb33⟩
            have Ft1_33 := Lib.hid h33
            clear h33
            have Fx_33 := Lib.hid (Fx_32.out.step hb33)
            clear Fx_32
            have Fy_33 := Lib.hid (Fy_32.out.step hb33)
            clear Fy_32
            have Fz_33 := Lib.hid (Fz_32.out.step hb33)
            clear Fz_32
            have B33 := Lib.hid (B32.out.trans (hb33.mono hs32))
            have hs33 : w.heap.size ≤ w33.heap.size := B33.out.size
            clear B32 hb33
            go_wp2_with fail
            refine (sLen q33 n33 c33 _ w33 Ft1_33.out).mono ?_
            rintro e w' ⟨rfl, rfl⟩
            clear Ft1_33
            have hl1 := lst_length (fun v => sx v && !sy v)
            have hl2 := lst_length sy
            go_wp2_with fail
            refine (sLen q2 n2 c2 _ w33 Fy_33.out).mono ?_
            rintro e w' ⟨rfl, rfl⟩
            go_wp2_with fail
            refine (sJoin q1 q2 n1 c1 n2 c2 _ _ w33 Fx_33.out Fy_33.out).mono ?_
            rintro e w34 ⟨q34, n34, c34, rfl, h34, hb34⟩
            have Ft1_34 := Lib.hid h34
            clear h34
            have Fx_34 := Lib.hid (Fx_33.out.step hb34)
            clear Fx_33
            have Fy_34 := Lib.hid (Fy_33.out.step hb34)
            clear Fy_33
            have Fz_34 := Lib.hid (Fz_33.out.step hb34)
            clear Fz_33
            have B34 := Lib.hid (B33.out.trans (hb34.mono hs33))
            have hs34 : w.heap.size ≤ w34.heap.size := B34.out.size
            clear B33 hb34
            go_wp2_with fail
            refine (sLen q34 n34 c34 _ w34 Ft1_34.out).mono ?_
            rintro e w' ⟨rfl, rfl⟩
            clear Ft1_34
            have hlen := lst_add sx sy
            generalize (lst fun v => sx v && !sy v).length = N1 at *
            generalize (lst sy).length = N2 at *
            generalize (lst fun v => sx v || sy v).length = N3 at *
            have hleb : ((N1 : Int) + N2 == (N3 : Int)) = true := by rw [beq_iff_eq]; omega
            clear hlen
            go_wp2_with (go_at_call 12; refine (alive_any _).mono ?_; rintro e w' ⟨rfl, hb'⟩)
            go_ret
            exact ⟨rfl, B34.out.trans (hb'.mono hs34)⟩

theorem packLaws_walk (p : Option Addr) (n c : Nat) (a : List Int) (p' : Option Addr) (n' c' : Nat) (b : List Int) (p'' : Option Addr) (n'' c'' : Nat) (d : List Int) (w : World) (hn : n ≤ 9223372036854775807) (ha : In mkI w p n c a) (_ : ∀ x ∈ a, -9223372036854775808 ≤ x ∧ x ≤ 9223372036854775807) (hn' : n' ≤ 9223372036854775807) (hb : In mkI w p' n' c' b) (_ : ∀ x ∈ b, -9223372036854775808 ≤ x ∧ x ≤ 9223372036854775807) (hn'' : n'' ≤ 9223372036854775807) (hd : In mkI w p'' n'' c'' d) (_ : ∀ x ∈ d, -9223372036854775808 ≤ x ∧ x ≤ 9223372036854775807) :
    Calls Try.prog 9 #[.slice p n c, .slice p' n' c', .slice p'' n'' c''] w fun e w' => e = .returned (.bool true) ∧ Below w.heap.size w w' := by
  by_cases h : 100 < n ∨ 100 < n' ∨ 100 < n''
  · exact packLaws_long p p' p'' n c n' c' n'' c'' w hn hn' hn'' h
  · exact packLaws_short p p' p'' n c n' c' n'' c'' a b d w ha hb hd (by omega) (by omega) (by omega)
end Go.Proofs.Ytlfnefgcndhomaa
