/-
  stableCmpFunc and SortStableFunc, on a row of at most 60 edits.
-/
import Derived.Test.YtficgilapbmmpaaStableB
namespace Go.Proofs.Ytficgilapbmmpaa
open Go.RowKit
set_option linter.unusedVariables false

theorem stable_any (w : World) (g n cap : Nat) (l : List Ed) (h : Arr w g l) (hn : n = l.length) (hcap : n ≤ cap) (hm : n ≤ 60) :
    Calls Try.prog 44 #[.slice (some ⟨g, 0, none⟩) n cap, .int .i64 n, .func (Fn.func 33) #[] #[]] w fun e w' => SortPost w g (ssort l) e w' := by
  by_cases h1 : n < 20
  · exact stable_a w g n cap l h hn hcap h1
  · by_cases h2 : n < 40
    · obtain ⟨X, Z, rfl, hX⟩ : ∃ X Z, l = X ++ Z ∧ X.length = 20 := ⟨l.take 20, l.drop 20, (List.take_append_drop _ _).symm, by rw [List.length_take]; omega⟩
      exact stable_b w g n cap X Z h hX (by rw [hn, List.length_append, hX]) hcap h2
    · obtain ⟨X, R, rfl, hX⟩ : ∃ X R, l = X ++ R ∧ X.length = 20 := ⟨l.take 20, l.drop 20, (List.take_append_drop _ _).symm, by rw [List.length_take]; omega⟩
      rw [List.length_append] at hn
      obtain ⟨Y, Z, rfl, hY⟩ : ∃ Y Z, R = Y ++ Z ∧ Y.length = 20 := ⟨R.take 20, R.drop 20, (List.take_append_drop _ _).symm, by rw [List.length_take]; omega⟩
      rw [List.length_append] at hn
      have e : X ++ (Y ++ Z) = (X ++ Y) ++ Z := (List.append_assoc _ _ _).symm
      rw [show ssort (X ++ (Y ++ Z)) = ssort ((X ++ Y) ++ Z) by rw [e]]
      by_cases h3 : n < 60
      · exact stable_c w g n cap X Y Z h hX hY (by omega) hcap h3
      · exact stable_d w g n cap X Y Z h hX hY (by omega) hcap hm (by omega)

theorem sortStable_any (w : World) (g n cap : Nat) (l : List Ed) (h : Arr w g l) (hn : n = l.length) (hcap : n ≤ cap) (hm : n ≤ 60) :
    Calls Try.prog 32 #[.slice (some ⟨g, 0, none⟩) n cap, .func (Fn.func 33) #[] #[]] w fun e w' => SortPost w g (ssort l) e w' := by
  have HN := Lib.hid hn
  have HARR := Lib.hid h
  clear hn h
  go_enter Try.func32, Try.ntmps32
  go_wp2_with fail
  refine (stable_any w g n cap l HARR.out HN.out hcap hm).mono ?_
  rintro e w1 ⟨rfl, arr1, gr1⟩
  have AR := Lib.hid arr1
  have GR := Lib.hid gr1
  clear arr1 gr1
  go_wp2_with fail
  go_end0
  exact ⟨rfl, AR.out, GR.out⟩
end Go.Proofs.Ytficgilapbmmpaa
