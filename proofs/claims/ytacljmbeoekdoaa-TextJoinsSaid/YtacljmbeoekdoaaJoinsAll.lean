/-
  The walk of TextJoins: all cases together.
-/
import Derived.Test.YtacljmbeoekdoaaJoinsA
import Derived.Test.YtacljmbeoekdoaaJoinsB
import Derived.Test.YtacljmbeoekdoaaJoinsC
import Derived.Test.YtacljmbeoekdoaaJoinsD
import Derived.Test.YtacljmbeoekdoaaJoinsE
import Derived.Test.YtacljmbeoekdoaaJoinsF
namespace Go.Proofs.Ytacljmbeoekdoaa
open Go.RowKit

/-- A slice of spans that came in: nil; of none; or a row of cells, two for each span. -/
def SpansIn (w : World) (p : Option Addr) (n cap : Nat) : Prop :=
  (p = none ∧ n = 0 ∧ cap = 0) ∨ (∃ a0, p = some a0 ∧ n = 0) ∨ ∃ (b off : Nat) (x : Int × Int) (r : List (Int × Int)), p = some ⟨b, off, none⟩ ∧ n = r.length + 1 ∧ n ≤ cap ∧ SpansAt w b off (x :: r) ∧ b < w.heap.size

theorem joins_walk (s : ByteArray) (a b c : Int) (p : Option Addr) (n cap : Nat) (w : World) (_ : s.size ≤ maxLen) (_ : (Lit.int .i64 a).wf = true) (_ : (Lit.int .i64 b).wf = true) (_ : (Lit.int .i64 c).wf = true) (hp : SpansIn w p n cap) :
    Calls Try.prog 4 #[.string s, .int .i64 a, .int .i64 b, .int .i64 c, .slice p n cap] w fun e w' => e = .returned (.bool true) ∧ Below w.heap.size w w' := by
  by_cases hs : s.size ≤ 1000
  · by_cases hn : n ≤ 100
    · by_cases h1 : InText s a b
      · by_cases h2 : InText s b c
        · have h1' : 0 ≤ a ∧ a ≤ b ∧ b ≤ s.size := h1
          have h2' : 0 ≤ b ∧ b ≤ c ∧ c ≤ s.size := h2
          obtain ⟨i, rfl⟩ := Int.eq_ofNat_of_zero_le (show 0 ≤ a by omega)
          obtain ⟨j, rfl⟩ := Int.eq_ofNat_of_zero_le (show 0 ≤ b by omega)
          obtain ⟨k, rfl⟩ := Int.eq_ofNat_of_zero_le (show 0 ≤ c by omega)
          rcases hp with ⟨rfl, rfl, rfl⟩ | ⟨a0, rfl, rfl⟩ | ⟨b0, off, x, r, rfl, rfl, hc, hsp, hb⟩
          · exact joins_yes_nil w s i j k (by omega) (by omega) (by omega) hs
          · exact joins_yes_empty w s i j k (by omega) (by omega) (by omega) hs a0 cap
          · exact joins_yes_spans w s i j k (by omega) (by omega) (by omega) hs b0 off cap x r hn hc hsp hb
        · rcases hp with ⟨rfl, rfl, rfl⟩ | ⟨a0, rfl, rfl⟩ | ⟨b0, off, x, r, rfl, rfl, hc, hsp, hb⟩
          · exact joins_no2_nil w s a b c h2 hs
          · exact joins_no2_empty w s a b c h2 hs a0 cap
          · exact joins_no2_spans w s a b c h2 hs b0 off cap x r hn hc hsp hb
      · rcases hp with ⟨rfl, rfl, rfl⟩ | ⟨a0, rfl, rfl⟩ | ⟨b0, off, x, r, rfl, rfl, hc, hsp, hb⟩
        · exact joins_no1_nil w s a b c h1 hs
        · exact joins_no1_empty w s a b c h1 hs a0 cap
        · exact joins_no1_spans w s a b c h1 hs b0 off cap x r hn hc hsp hb
    · exact joins_many w s a b c p n cap (by omega) (by omega)
  · exact joins_long w s a b c p n cap (by omega)
end Go.Proofs.Ytacljmbeoekdoaa
