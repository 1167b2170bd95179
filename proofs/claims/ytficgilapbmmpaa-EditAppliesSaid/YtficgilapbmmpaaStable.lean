/-
  stableCmpFunc, by the row's length.
-/
import Derived.Test.YtficgilapbmmpaaSymAll
namespace Go.Proofs.Ytficgilapbmmpaa
open Go.RowKit
set_option linter.unusedVariables false

set_option maxHeartbeats 4000000 in
/-- From 20 to 39. -/
theorem stable_b (w : World) (g n cap : Nat) (X Z : List Ed) (h : Arr w g (X ++ Z)) (hX : X.length = 20) (hn : n = 20 + Z.length) (hcap : n ≤ cap) (hm : n < 40) :
    Calls Try.prog 44 #[.slice (some ⟨g, 0, none⟩) n cap, .int .i64 n, .func (Fn.func 33) #[] #[]] w fun e w' => SortPost w g (ssort (X ++ Z)) e w' := by
  have HN := Lib.hid hn
  have HX := Lib.hid hX
  have HARR := Lib.hid h
  have hn20 : 20 ≤ n := by omega
  clear hn h hX
  go_enter Try.func44, Try.ntmps44
  go_wp2_with fail
  refine wp_loop_rounds 2 ?_
  rw [rounds_succ]
  go_wp2_with fail
  refine (sort_int w g n cap _ _ [] X Z (by simpa using HARR.out) (by rw [HN.out]; simp [HX.out]) hcap (by omega) (by simp) (by simp [HX.out])).mono ?_
  rintro e1 w1 ⟨rfl, arr1, gr1⟩
  have AR := Lib.hid arr1
  have GR := Lib.hid gr1
  clear arr1 gr1
  go_wp2_with fail
  rw [rounds_succ]
  go_wp2_with fail
  refine (sort_int w1 g n cap _ _ (ssort X) Z [] (by simpa using AR.out) (by rw [HN.out]; simp [ssort_length, HX.out]) hcap (by omega) (by simp [ssort_length, HX.out]) (by rw [HN.out]; simp [ssort_length, HX.out])).mono ?_
  rintro e2 w2 ⟨rfl, arr2, gr2⟩
  have AR2 : Hid (Arr w2 g (ssort X ++ ssort Z)) := Lib.hid (by simpa using arr2)
  have GR2 := Lib.hid (grown_trans GR.out gr2)
  clear arr2 gr2
  by_cases hz : n = 20
  · have hzz : Z = [] := List.eq_nil_of_length_eq_zero (by have := HN.out; omega)
    subst hzz
    have hd : decide (20 < n) = false := decide_eq_false (by omega)
    go_wp2_with fail
    refine wp_loop_rounds 1 ?_
    rw [rounds_succ]
    go_wp2_with fail
    go_end0
    exact ⟨rfl, by simpa [ssort] using AR2.out, GR2.out⟩
  · have hz2 : 20 < n := by omega
    go_wp2_with fail
    refine wp_loop_rounds 2 ?_
    rw [rounds_succ]
    go_wp2_with fail
    refine wp_loop_rounds 1 ?_
    rw [rounds_succ]
    go_wp2_with fail
    refine (merge_int w2 g n cap _ _ _ [] (ssort X) (ssort Z) [] (by simpa using AR2.out) (by rw [HN.out]; simp [ssort_length, HX.out]) hcap (by omega) (by simp) (by simp [ssort_length, HX.out]) (by rw [HN.out]; simp [ssort_length, HX.out]) (ssort_order X) (ssort_order Z) (by rw [ssort_length, HX.out]; omega) (by rw [ssort_length]; have := HN.out; omega)).mono ?_
    rintro e3 w3 ⟨rfl, arr3, gr3⟩
    have AR3 : Hid (Arr w3 g (ssort (X ++ Z))) := Lib.hid (by rw [← ssort_two]; simpa using arr3)
    have GR3 := Lib.hid (grown_trans GR2.out gr3)
    clear arr3 gr3
    go_wp2_with fail
    rw [rounds_succ]
    go_wp2_with fail
    go_end0
    exact ⟨rfl, AR3.out, GR3.out⟩
end Go.Proofs.Ytficgilapbmmpaa
