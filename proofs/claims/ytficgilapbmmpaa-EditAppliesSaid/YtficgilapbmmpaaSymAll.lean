/-
  symMerge, on parts of any length.
-/
import Derived.Test.YtficgilapbmmpaaSymC
namespace Go.Proofs.Ytficgilapbmmpaa
open Go.RowKit
set_option linter.unusedVariables false

theorem sym_all : ∀ k, SymOk k
  | 0 => fun w g a m b n cap P A B Q h hn hcap hm ha hmm hb hA hB h1 h2 hk => absurd hk (by omega)
  | k + 1 => fun w g a m b n cap P A B Q h hn hcap hm ha hmm hb hA hB h1 h2 hk => by
    by_cases c1 : A.length = 1
    · obtain ⟨x, rfl⟩ := List.length_eq_one_iff.1 c1
      exact sym_first w g a m b n cap P x B Q (by simpa using h) (by rw [hn]; simp) hcap hm ha (by simpa using hmm) (by simpa using hb) hB
    · by_cases c2 : B.length = 1
      · obtain ⟨x, rfl⟩ := List.length_eq_one_iff.1 c2
        exact sym_last w g a m b n cap P x A Q (by simpa using h) (by rw [hn]; simp) hcap hm ha hmm (by simpa using hb) hA c1
      · exact sym_mid k (sym_all k) w g a m b n cap P A B Q h hn hcap hm ha hmm hb hA hB (by omega) (by omega) hk

theorem sort_int (w : World) (g n cap : Nat) (xa xb : Int) (P A Q : List Ed) (h : Arr w g (P ++ (A ++ Q))) (hn : n = (P ++ (A ++ Q)).length) (hcap : n ≤ cap) (hm : n ≤ 60) (ha : xa = (P.length : Nat)) (hb : xb = ((P.length + A.length : Nat) : Int)) :
    Calls Try.prog 48 #[.slice (some ⟨g, 0, none⟩) n cap, .int .i64 xa, .int .i64 xb, .func (Fn.func 33) #[] #[]] w fun e w' => SortPost w g (P ++ (ssort A ++ Q)) e w' := by
  subst ha hb
  by_cases hA : 1 ≤ A.length
  · exact insert_some w g _ _ n cap P A Q h hn hcap hm rfl rfl hA
  · have : A = [] := List.eq_nil_of_length_eq_zero (by omega)
    subst this
    refine (insert_none w g P.length n cap (by rw [hn] at hm; simp at hm; omega)).mono ?_
    rintro e w' ⟨rfl, rfl⟩
    exact ⟨rfl, h, grown_same _ _⟩
theorem merge_int (w : World) (g n cap : Nat) (xa xm xb : Int) (P A B Q : List Ed) (h : Arr w g (P ++ (A ++ (B ++ Q)))) (hn : n = (P ++ (A ++ (B ++ Q))).length) (hcap : n ≤ cap) (hm : n ≤ 60) (ha : xa = (P.length : Nat)) (hmm : xm = ((P.length + A.length : Nat) : Int)) (hb : xb = ((P.length + A.length + B.length : Nat) : Int)) (hA : InOrder A) (hB : InOrder B) (h1 : 1 ≤ A.length) (h2 : 1 ≤ B.length) :
    Calls Try.prog 49 #[.slice (some ⟨g, 0, none⟩) n cap, .int .i64 xa, .int .i64 xm, .int .i64 xb, .func (Fn.func 33) #[] #[]] w fun e w' => SortPost w g (P ++ (ssort (A ++ B) ++ Q)) e w' := by
  subst ha hmm hb
  exact sym_all _ w g _ _ _ n cap P A B Q h hn hcap hm rfl rfl rfl hA hB h1 h2 (Nat.le_refl _)
/-- Parts put in order, then put in order together. -/
theorem ssort_two (A B : List Ed) : ssort (ssort A ++ ssort B) = ssort (A ++ B) := by
  have a := ssort_inner (A := A) (B := ssort A) (by rw [ssort_fix (ssort_order A)]) [] B
  have b := ssort_inner (A := B) (B := ssort B) (by rw [ssort_fix (ssort_order B)]) (ssort A) []
  simp only [List.nil_append, List.append_nil] at a b
  rw [a, b]

set_option maxHeartbeats 4000000 in
/-- Fewer than 20. -/
theorem stable_a (w : World) (g n cap : Nat) (l : List Ed) (h : Arr w g l) (hn : n = l.length) (hcap : n ≤ cap) (hm : n < 20) :
    Calls Try.prog 44 #[.slice (some ⟨g, 0, none⟩) n cap, .int .i64 n, .func (Fn.func 33) #[] #[]] w fun e w' => SortPost w g (ssort l) e w' := by
  have HN := Lib.hid hn
  have HARR := Lib.hid h
  clear hn h
  go_enter Try.func44, Try.ntmps44
  go_wp2_with fail
  refine wp_loop_rounds 1 ?_
  rw [rounds_succ]
  go_wp2_with fail
  refine (sort_int w g n cap _ _ [] l [] (by simpa using HARR.out) (by simpa using HN.out) hcap (by omega) (by simp) (by rw [HN.out]; simp)).mono ?_
  rintro e1 w1 ⟨rfl, arr1, gr1⟩
  have AR := Lib.hid arr1
  have GR := Lib.hid gr1
  clear arr1 gr1
  go_wp2_with fail
  refine wp_loop_rounds 1 ?_
  rw [rounds_succ]
  go_wp2_with fail
  go_end0
  exact ⟨rfl, by simpa using AR.out, GR.out⟩
end Go.Proofs.Ytficgilapbmmpaa
