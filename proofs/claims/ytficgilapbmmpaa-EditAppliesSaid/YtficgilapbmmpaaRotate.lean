/-
  rotate: two neighbouring parts of a row of edits change places.
-/
import Derived.Test.YtficgilapbmmpaaSwapR
namespace Go.Proofs.Ytficgilapbmmpaa
open Go.RowKit
set_option linter.unusedVariables false

theorem swap_int (w : World) (g n cap : Nat) (xa xb xc : Int) (P X Y Z Q : List Ed) (h : Arr w g (P ++ (X ++ (Y ++ (Z ++ Q))))) (hn : n = (P ++ (X ++ (Y ++ (Z ++ Q)))).length) (hcap : n ≤ cap) (hm : n ≤ 60) (ha : xa = (P.length : Nat)) (hX : xc = (X.length : Nat)) (hZ : Z.length = X.length) (hb : xb = ((P.length + X.length + Y.length : Nat) : Int)) :
    Calls Try.prog 52 #[.slice (some ⟨g, 0, none⟩) n cap, .int .i64 xa, .int .i64 xb, .int .i64 xc, .func (Fn.func 33) #[] #[]] w fun e w' => SortPost w g (P ++ (Z ++ (Y ++ (X ++ Q)))) e w' := by
  subst ha hX hb
  exact swap_any w g _ _ _ n cap P X Y Z Q h hn hcap hm rfl rfl hZ rfl

/-- What a round of rotate's loop begins with. -/
structure Turning (w wr : World) (g : Nat) (P A B Q : List Ed) (i j : Nat) (S A' B' T : List Ed) : Prop where
  arr : Arr wr g (P ++ (S ++ (A' ++ (B' ++ (T ++ Q)))))
  same : S ++ (B' ++ (A' ++ T)) = B ++ A
  li : A'.length = i
  lj : B'.length = j
  pi : 1 ≤ i
  pj : 1 ≤ j
  lm : P.length + S.length + i = P.length + A.length
  grown : w.grownBy wr (some g)

set_option maxHeartbeats 1000000 in
theorem rotate_any (w : World) (g a m b n cap : Nat) (P A B Q : List Ed) (h : Arr w g (P ++ (A ++ (B ++ Q)))) (hn : n = (P ++ (A ++ (B ++ Q))).length) (hcap : n ≤ cap) (hm : n ≤ 60) (ha : a = P.length) (hmm : m = P.length + A.length) (hb : b = P.length + A.length + B.length) (hA : 1 ≤ A.length) (hB : 1 ≤ B.length) :
    Calls Try.prog 51 #[.slice (some ⟨g, 0, none⟩) n cap, .int .i64 a, .int .i64 m, .int .i64 b, .func (Fn.func 33) #[] #[]] w fun e w' => SortPost w g (P ++ (B ++ (A ++ Q))) e w' := by
  have hlen : n = P.length + A.length + B.length + Q.length := by rw [hn]; simp; omega
  have hT0 : Turning w w g P A B Q A.length B.length [] A B [] := ⟨by simpa using h, by simp, rfl, rfl, hA, hB, by simp, grown_same _ _⟩
  have HT := Lib.hid hT0
  have hma : m - a = A.length := by omega
  have hbm : b - m = B.length := by omega
  have i1 : (m : Int) - a = (A.length : Nat) := by omega
  have i2 : (b : Int) - m = (B.length : Nat) := by omega
  have HMM := Lib.hid hmm
  have HLEN := Lib.hid hlen
  have hmn : m ≤ 60 := by omega
  have hA60 : A.length ≤ 60 := by omega
  have hB60 : B.length ≤ 60 := by omega
  clear hn ha hb hT0 h hlen hma hbm hmm
  go_enter Try.func51, Try.ntmps51
  go_wp2_with fail
  go_loopw [10, 11] (fun x y wr => ∃ (i j : Nat) (S A' B' T : List Ed), x = .int .i64 i ∧ y = .int .i64 j ∧ Turning w wr g P A B Q i j S A' B' T) (fun x y _ => (intOf x).toNat + (intOf y).toNat)
  case atStart => exact ⟨_, _, [], A, B, [], rfl, rfl, HT.out⟩
  case round =>
    obtain ⟨i, j, S, A', B', T, rfl, rfl, K⟩ := hrel
    have KH := Lib.hid K
    have hmi : (m : Int) - i = ((P ++ S).length : Nat) := by have := K.lm; have := HMM.out; simp; omega
    have hsum := congrArg List.length K.same
    simp only [List.length_append] at hsum
    have hli := K.li
    have hlj := K.lj
    have hpi := K.pi
    have hpj := K.pj
    have hi60 : i ≤ 60 := by have := HLEN.out; omega
    have hj60 : j ≤ 60 := by have := HLEN.out; omega
    have hnl : n = (P ++ (S ++ (A' ++ (B' ++ (T ++ Q))))).length := by have := HLEN.out; simp only [List.length_append]; omega
    have HNL := Lib.hid hnl
    have HMI := Lib.hid hmi
    have HLI := Lib.hid hli
    have HLJ := Lib.hid hlj
    have HSUM := Lib.hid hsum
    have hmi0 : 0 ≤ (m : Int) - i := by omega
    clear K hnl hmi hli hlj hsum
    by_cases hij : i = j
    · subst hij
      go_wp2_with fail
      refine (swap_int _ g n cap _ _ _ (P ++ S) A' [] B' (T ++ Q) (by have := KH.out.arr; simpa using this) (by rw [HNL.out]; simp) hcap hm HMI.out (by rw [HLI.out]) (by rw [HLI.out, HLJ.out]) (by have h1 := KH.out.lm; have h2 := HMM.out; have h3 := HLI.out; simp; omega)).mono ?_
      rintro e w5 ⟨rfl, arr5, gr5⟩
      have hfin : Arr w5 g (P ++ (B ++ (A ++ Q))) := by
        have h1 := KH.out.same
        have h2 : P ++ S ++ (B' ++ ([] ++ (A' ++ (T ++ Q)))) = P ++ ((S ++ (B' ++ (A' ++ T))) ++ Q) := by simp
        rw [h2, h1] at arr5
        simpa using arr5
      have HF := Lib.hid hfin
      have HG := Lib.hid (grown_trans KH.out.grown gr5)
      clear hfin arr5 gr5
      go_wp2_with fail
      go_end0
      exact ⟨rfl, HF.out, HG.out⟩
    · by_cases hgt : j < i
      · obtain ⟨A1, A2, rfl, hX, hY⟩ : ∃ A1 A2, A' = A1 ++ A2 ∧ A1.length = j ∧ A2.length = i - j :=
          ⟨A'.take j, A'.drop j, (List.take_append_drop j A').symm, by rw [List.length_take, HLI.out]; omega, by rw [List.length_drop, HLI.out]⟩
        have HX := Lib.hid hX
        have HY := Lib.hid hY
        clear hX hY
        go_wp2_with fail
        refine (swap_int _ g n cap _ _ _ (P ++ S) A1 A2 B' (T ++ Q) (by have := KH.out.arr; simpa using this) (by rw [HNL.out]; simp) hcap hm HMI.out (by rw [HX.out]) (by rw [HX.out, HLJ.out]) (by rw [HX.out, HY.out]; have h1 := KH.out.lm; have h2 := HMM.out; simp; omega)).mono ?_
        rintro e w5 ⟨rfl, arr5, gr5⟩
        have hnew : Turning w w5 g P A B Q (i - j) j (S ++ B') A2 A1 T := by
          refine ⟨by simpa using arr5, ?_, HY.out, HX.out, by omega, hpj, ?_, grown_trans KH.out.grown gr5⟩
          · have := KH.out.same
            rw [← this]
            simp
          · have h1 := KH.out.lm
            have h2 := HLJ.out
            simp; omega
        have HNEW := Lib.hid hnew
        have hI : ((i - j : Nat) : Int) = (i : Int) - j := by omega
        have HI := Lib.hid hI
        clear hnew arr5 gr5 hI
        go_wp2_with fail
        go_roundw
        case rel => exact ⟨i - j, j, _, _, _, _, by rw [HI.out], rfl, HNEW.out⟩
        case measure => simp [intOf]; omega
      · obtain ⟨B1, B2, rfl, hX, hY⟩ : ∃ B1 B2, B' = B1 ++ B2 ∧ B1.length = j - i ∧ B2.length = i :=
          ⟨B'.take (j - i), B'.drop (j - i), (List.take_append_drop (j - i) B').symm, by rw [List.length_take, HLJ.out]; omega, by rw [List.length_drop, HLJ.out]; omega⟩
        have HX := Lib.hid hX
        have HY := Lib.hid hY
        have hmj : (m : Int) + j - i = (((P ++ S).length + A'.length + B1.length : Nat) : Int) := by
          have h1 := HMI.out
          rw [hX, HLI.out]
          omega
        have HMJ := Lib.hid hmj
        clear hmj hX hY
        go_wp2_with fail
        refine (swap_int _ g n cap _ _ _ (P ++ S) A' B1 B2 (T ++ Q) (by have := KH.out.arr; simpa using this) (by rw [HNL.out]; simp) hcap hm HMI.out (by rw [HLI.out]) (by rw [HY.out, HLI.out]) HMJ.out).mono ?_
        rintro e w5 ⟨rfl, arr5, gr5⟩
        have hnew : Turning w w5 g P A B Q i (j - i) S B2 B1 (A' ++ T) := by
          refine ⟨by simpa using arr5, ?_, HY.out, HX.out, hpi, by omega, KH.out.lm, grown_trans KH.out.grown gr5⟩
          have := KH.out.same
          rw [← this]
          simp
        have HNEW := Lib.hid hnew
        have hI : ((j - i : Nat) : Int) = (j : Int) - i := by omega
        have HI := Lib.hid hI
        clear hnew arr5 gr5 hI
        go_wp2_with fail
        go_roundw
        case rel => exact ⟨i, j - i, _, _, _, _, rfl, by rw [HI.out], HNEW.out⟩
        case measure => simp [intOf]; omega
end Go.Proofs.Ytficgilapbmmpaa
