/-
  TextParts: for any text and any two spans it returns true, and nothing that was there before is written: the cases together.
-/
import Derived.Test.YtacljmbeoekdoaaPartsA
import Derived.Test.YtacljmbeoekdoaaPartsB
import Derived.Test.YtacljmbeoekdoaaPartsC
import Derived.Test.YtacljmbeoekdoaaPartsD
namespace Go.Proofs.Ytacljmbeoekdoaa
open Go.RowKit

theorem parts_walk (s : ByteArray) (a b c d : Int) (w : World) (_ : s.size ≤ maxLen) (_ : (Lit.int .i64 a).wf = true) (_ : (Lit.int .i64 b).wf = true) (_ : (Lit.int .i64 c).wf = true) (_ : (Lit.int .i64 d).wf = true) :
    Calls Try.prog 3 #[.string s, .agg #[.int .i64 a, .int .i64 b], .agg #[.int .i64 c, .int .i64 d]] w fun e w' => e = .returned (.bool true) ∧ Below w.heap.size w w' := by
  by_cases hs : s.size ≤ 3000
  · by_cases ht : InText s a b
    · have ht' : 0 ≤ a ∧ a ≤ b ∧ b ≤ s.size := ht
      obtain ⟨i, rfl⟩ := Int.eq_ofNat_of_zero_le (show 0 ≤ a by omega)
      obtain ⟨j, rfl⟩ := Int.eq_ofNat_of_zero_le (show 0 ≤ b by omega)
      by_cases hac : (i : Int) ≤ c
      · exact parts_right_a w s i j (by omega) (by omega) c d hs hac
      · exact parts_right_b w s i j (by omega) (by omega) c d hs (by omega)
    · by_cases hac : a ≤ c
      · exact parts_left_a w s a b ht c d hs hac
      · exact parts_left_b w s a b ht c d hs (by omega)
  · exact parts_long s a b c d w (by omega)
end Go.Proofs.Ytacljmbeoekdoaa
