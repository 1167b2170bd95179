/-
  stableCmpFunc, 40 edits and more.
-/
import Derived.Test.YtficgilapbmmpaaStable
namespace Go.Proofs.Ytficgilapbmmpaa
open Go.RowKit
set_option linter.unusedVariables false

set_option maxHeartbeats 4000000 in
/-- From 40 to 59. -/
theorem stable_c (w : World) (g n cap : Nat) (X Y Z : List Ed) (h : Arr w g (X ++ (Y ++ Z))) (hX : X.length = 20) (hY : Y.length = 20) (hn : n = 40 + Z.length) (hcap : n ≤ cap) (hm : n < 60) :
    Calls Try.prog 44 #[.slice (some ⟨g, 0, none⟩) n cap, .int .i64 n, .func (Fn.func 33) #[] #[]] w fun e w' => SortPost w g (ssort ((X ++ Y) ++ Z)) e w' := by
  have HN := Lib.hid hn
  have HX := Lib.hid hX
  have HY := Lib.hid hY
  have HARR := Lib.hid h
  have hn20 : 40 ≤ n := by omega
  clear hn h hX hY
  go_enter Try.func44, Try.ntmps44
  go_wp2_with fail
  refine wp_loop_rounds 3 ?_
  rw [rounds_succ]
  go_wp2_with fail
  refine (sort_int w g n cap _ _ [] X (Y ++ Z) (by simpa using HARR.out) (by rw [HN.out]; simp [HX.out, HY.out]; omega) hcap (by omega) (by simp) (by simp [HX.out])).mono ?_
  rintro e1 w1 ⟨rfl, arr1, gr1⟩
  have AR := Lib.hid arr1
  have GR := Lib.hid gr1
  clear arr1 gr1
  go_wp2_with fail
  rw [rounds_succ]
  go_wp2_with fail
  refine (sort_int w1 g n cap _ _ (ssort X) Y Z (by simpa using AR.out) (by rw [HN.out]; simp [ssort_length, HX.out, HY.out]; omega) hcap (by omega) (by simp [ssort_length, HX.out]) (by simp [ssort_length, HX.out, HY.out])).mono ?_
  rintro e2 w2 ⟨rfl, arr2, gr2⟩
  have AR2 : Hid (Arr w2 g (ssort X ++ (ssort Y ++ Z))) := Lib.hid (by simpa using arr2)
  have GR2 := Lib.hid (grown_trans GR.out gr2)
  clear arr2 gr2
  go_wp2_with fail
  rw [rounds_succ]
  go_wp2_with fail
  refine (sort_int w2 g n cap _ _ (ssort X ++ ssort Y) Z [] (by simpa using AR2.out) (by rw [HN.out]; simp [ssort_length, HX.out, HY.out]; omega) hcap (by omega) (by simp [ssort_length, HX.out, HY.out]) (by first | (rw [HN.out]; simp [ssort_length, HX.out, HY.out]; omega) | (have := HN.out; simp [ssort_length, HX.out, HY.out]; omega))).mono ?_
  rintro e3 w3 ⟨rfl, arr3, gr3⟩
  have AR3 : Hid (Arr w3 g (ssort X ++ (ssort Y ++ ssort Z))) := Lib.hid (by simpa using arr3)
  have GR3 := Lib.hid (grown_trans GR2.out gr3)
  clear arr3 gr3
  have hz1 : 20 < n := by omega
  have hz4 : ¬ 80 ≤ n := by omega
  have hz5 : ¬ 60 < n := by omega
  by_cases hz : n = 40
  · have hzz : Z = [] := List.eq_nil_of_length_eq_zero (by have := HN.out; omega)
    have HZZ := Lib.hid hzz
    have hz6 : n ≤ 40 := by omega
    have hd : decide (40 < n) = false := decide_eq_false (by omega)
    clear hzz hz
    go_wp2_with fail
    refine wp_loop_rounds 3 ?_
    rw [rounds_succ]
    go_wp2_with fail
    refine wp_loop_rounds 2 ?_
    rw [rounds_succ]
    go_wp2_with fail
    refine (merge_int w3 g n cap _ _ _ [] (ssort X) (ssort Y) (ssort Z) (by simpa using AR3.out) (by have := HN.out; simp [ssort_length, HX.out, HY.out]; omega) hcap (by omega) (by simp) (by simp [ssort_length, HX.out]) (by simp [ssort_length, HX.out, HY.out]) (ssort_order X) (ssort_order Y) (by rw [ssort_length, HX.out]; omega) (by rw [ssort_length, HY.out]; omega)).mono ?_
    rintro e5 w5 ⟨rfl, arr5, gr5⟩
    have AR5 : Hid (Arr w5 g (ssort (X ++ Y) ++ ssort Z)) := Lib.hid (by rw [← ssort_two X Y]; simpa using arr5)
    have GR5 := Lib.hid (grown_trans GR3.out gr5)
    clear arr5 gr5
    go_wp2_with fail
    rw [rounds_succ]
    go_wp2_with fail
    rw [rounds_succ]
    go_wp2_with fail
    go_end0
    exact ⟨rfl, by have hq := AR5.out; rw [HZZ.out] at hq ⊢; simpa [ssort] using hq, GR5.out⟩
  · have hz2 : 40 < n := by omega
    go_wp2_with fail
    refine wp_loop_rounds 3 ?_
    rw [rounds_succ]
    go_wp2_with fail
    refine wp_loop_rounds 2 ?_
    rw [rounds_succ]
    go_wp2_with fail
    refine (merge_int w3 g n cap _ _ _ [] (ssort X) (ssort Y) (ssort Z) (by simpa using AR3.out) (by have := HN.out; simp [ssort_length, HX.out, HY.out]; omega) hcap (by omega) (by simp) (by simp [ssort_length, HX.out]) (by simp [ssort_length, HX.out, HY.out]) (ssort_order X) (ssort_order Y) (by rw [ssort_length, HX.out]; omega) (by rw [ssort_length, HY.out]; omega)).mono ?_
    rintro e5 w5 ⟨rfl, arr5, gr5⟩
    have AR5 : Hid (Arr w5 g (ssort (X ++ Y) ++ ssort Z)) := Lib.hid (by rw [← ssort_two X Y]; simpa using arr5)
    have GR5 := Lib.hid (grown_trans GR3.out gr5)
    clear arr5 gr5
    go_wp2_with fail
    rw [rounds_succ]
    go_wp2_with fail
    rw [rounds_succ]
    go_wp2_with fail
    refine wp_loop_rounds 1 ?_
    rw [rounds_succ]
    go_wp2_with fail
    refine (merge_int w5 g n cap _ _ _ [] (ssort (X ++ Y)) (ssort Z) [] (by simpa using AR5.out) (by have := HN.out; simp [ssort_length, HX.out, HY.out]; omega) hcap (by omega) (by simp) (by simp [ssort_length, HX.out, HY.out]) (by have := HN.out; simp [ssort_length, HX.out, HY.out]; omega) (ssort_order _) (ssort_order Z) (by rw [ssort_length]; simp [HX.out]; omega) (by rw [ssort_length]; have := HN.out; omega)).mono ?_
    rintro e6 w6 ⟨rfl, arr6, gr6⟩
    have AR6 : Hid (Arr w6 g (ssort ((X ++ Y) ++ Z))) := Lib.hid (by rw [← ssort_two (X ++ Y) Z]; simpa using arr6)
    have GR6 := Lib.hid (grown_trans GR5.out gr6)
    clear arr6 gr6
    go_wp2_with fail
    rw [rounds_succ]
    go_wp2_with fail
    go_end0
    exact ⟨rfl, AR6.out, GR6.out⟩

set_option maxHeartbeats 4000000 in
/-- Just 60. -/
theorem stable_d (w : World) (g n cap : Nat) (X Y Z : List Ed) (h : Arr w g (X ++ (Y ++ Z))) (hX : X.length = 20) (hY : Y.length = 20) (hn : n = 40 + Z.length) (hcap : n ≤ cap) (hm : n ≤ 60) (hm6 : 60 ≤ n) :
    Calls Try.prog 44 #[.slice (some ⟨g, 0, none⟩) n cap, .int .i64 n, .func (Fn.func 33) #[] #[]] w fun e w' => SortPost w g (ssort ((X ++ Y) ++ Z)) e w' := by
  have HN := Lib.hid hn
  have HX := Lib.hid hX
  have HY := Lib.hid hY
  have HARR := Lib.hid h
  have hn20 : 40 ≤ n := by omega
  clear hn h hX hY
  go_enter Try.func44, Try.ntmps44
  go_wp2_with fail
  refine wp_loop_rounds 4 ?_
  rw [rounds_succ]
  go_wp2_with fail
  refine (sort_int w g n cap _ _ [] X (Y ++ Z) (by simpa using HARR.out) (by rw [HN.out]; simp [HX.out, HY.out]; omega) hcap (by omega) (by simp) (by simp [HX.out])).mono ?_
  rintro e1 w1 ⟨rfl, arr1, gr1⟩
  have AR := Lib.hid arr1
  have GR := Lib.hid gr1
  clear arr1 gr1
  go_wp2_with fail
  rw [rounds_succ]
  go_wp2_with fail
  refine (sort_int w1 g n cap _ _ (ssort X) Y Z (by simpa using AR.out) (by rw [HN.out]; simp [ssort_length, HX.out, HY.out]; omega) hcap (by omega) (by simp [ssort_length, HX.out]) (by simp [ssort_length, HX.out, HY.out])).mono ?_
  rintro e2 w2 ⟨rfl, arr2, gr2⟩
  have AR2 : Hid (Arr w2 g (ssort X ++ (ssort Y ++ Z))) := Lib.hid (by simpa using arr2)
  have GR2 := Lib.hid (grown_trans GR.out gr2)
  clear arr2 gr2
  go_wp2_with fail
  rw [rounds_succ]
  go_wp2_with fail
  refine (sort_int w2 g n cap _ _ (ssort X ++ ssort Y) Z [] (by simpa using AR2.out) (by rw [HN.out]; simp [ssort_length, HX.out, HY.out]; omega) hcap (by omega) (by simp [ssort_length, HX.out, HY.out]) (by first | (rw [HN.out]; simp [ssort_length, HX.out, HY.out]; omega) | (have := HN.out; simp [ssort_length, HX.out, HY.out]; omega))).mono ?_
  rintro e3 w3 ⟨rfl, arr3, gr3⟩
  have AR3 : Hid (Arr w3 g (ssort X ++ (ssort Y ++ ssort Z))) := Lib.hid (by simpa using arr3)
  have GR3 := Lib.hid (grown_trans GR2.out gr3)
  clear arr3 gr3
  have hz1 : 20 < n := by omega
  have hz2 : 40 < n := by omega
  have hz4 : ¬ 80 ≤ n := by omega
  have hz5 : ¬ 60 < n := by omega
  go_wp2_with fail
  rw [rounds_succ]
  go_wp2_with fail
  refine (sort_int w3 g n cap _ _ (ssort X ++ (ssort Y ++ ssort Z)) [] [] (by simpa using AR3.out) (by have := HN.out; simp [ssort_length, HX.out, HY.out]; omega) hcap (by omega) (by have := HN.out; simp [ssort_length, HX.out, HY.out]; omega) (by have := HN.out; simp [ssort_length, HX.out, HY.out]; omega)).mono ?_
  rintro e4 w4 ⟨rfl, arr4, gr4⟩
  have AR4 : Hid (Arr w4 g (ssort X ++ (ssort Y ++ ssort Z))) := Lib.hid (by simpa [ssort] using arr4)
  have GR4 := Lib.hid (grown_trans GR3.out gr4)
  clear arr4 gr4
  go_wp2_with fail
  refine wp_loop_rounds 3 ?_
  rw [rounds_succ]
  go_wp2_with fail
  refine wp_loop_rounds 2 ?_
  rw [rounds_succ]
  go_wp2_with fail
  refine (merge_int w4 g n cap _ _ _ [] (ssort X) (ssort Y) (ssort Z) (by simpa using AR4.out) (by have := HN.out; simp [ssort_length, HX.out, HY.out]; omega) hcap (by omega) (by simp) (by simp [ssort_length, HX.out]) (by simp [ssort_length, HX.out, HY.out]) (ssort_order X) (ssort_order Y) (by rw [ssort_length, HX.out]; omega) (by rw [ssort_length, HY.out]; omega)).mono ?_
  rintro e5 w5 ⟨rfl, arr5, gr5⟩
  have AR5 : Hid (Arr w5 g (ssort (X ++ Y) ++ ssort Z)) := Lib.hid (by rw [← ssort_two X Y]; simpa using arr5)
  have GR5 := Lib.hid (grown_trans GR4.out gr5)
  clear arr5 gr5
  go_wp2_with fail
  rw [rounds_succ]
  go_wp2_with fail
  rw [rounds_succ]
  go_wp2_with fail
  refine wp_loop_rounds 1 ?_
  rw [rounds_succ]
  go_wp2_with fail
  refine (merge_int w5 g n cap _ _ _ [] (ssort (X ++ Y)) (ssort Z) [] (by simpa using AR5.out) (by have := HN.out; simp [ssort_length, HX.out, HY.out]; omega) hcap (by omega) (by simp) (by simp [ssort_length, HX.out, HY.out]) (by have := HN.out; simp [ssort_length, HX.out, HY.out]; omega) (ssort_order _) (ssort_order Z) (by rw [ssort_length]; simp [HX.out]; omega) (by rw [ssort_length]; have := HN.out; omega)).mono ?_
  rintro e6 w6 ⟨rfl, arr6, gr6⟩
  have AR6 : Hid (Arr w6 g (ssort ((X ++ Y) ++ Z))) := Lib.hid (by rw [← ssort_two (X ++ Y) Z]; simpa using arr6)
  have GR6 := Lib.hid (grown_trans GR5.out gr6)
  clear arr6 gr6
  go_wp2_with fail
  rw [rounds_succ]
  go_wp2_with fail
  go_end0
  exact ⟨rfl, AR6.out, GR6.out⟩
end Go.Proofs.Ytficgilapbmmpaa
