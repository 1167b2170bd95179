/-
  The walk of TextOrder: for any three spans it returns true, and nothing that was there before is written.
-/
import Derived.Test.YtacljmbeoekdoaaSpan
import Derived.Test.YtacljmbeoekdoaaAliveB
namespace Go.Proofs.Ytacljmbeoekdoaa
open Go.RowKit

theorem holds_from {N : Nat} {W0 w : World} (a b c d : Int) (h : From N W0 w) :
    Calls Try.prog 12 #[.agg #[.int .i64 a, .int .i64 b], .agg #[.int .i64 c, .int .i64 d]] w fun e w' => e = .returned (.bool (holdsB a b c d)) ∧ From N W0 w' :=
  (holds_any a b c d w).mono fun _ _ ⟨he, hb⟩ => ⟨he, h.step hb⟩
theorem meets_from {N : Nat} {W0 w : World} (a b c d : Int) (h : From N W0 w) :
    Calls Try.prog 13 #[.agg #[.int .i64 a, .int .i64 b], .agg #[.int .i64 c, .int .i64 d]] w fun e w' => e = .returned (.bool (meetsB a b c d)) ∧ From N W0 w' :=
  (meets_any a b c d w).mono fun _ _ ⟨he, hb⟩ => ⟨he, h.step hb⟩
theorem alive_from {N : Nat} {W0 w : World} (h : From N W0 w) :
    Calls Try.prog 6 #[] w fun e w' => e = .returned (.bool true) ∧ From N W0 w' :=
  (alive_any w).mono fun _ _ ⟨he, hb⟩ => ⟨he, h.step hb⟩

theorem holds_on {a b c d e f : Int} (h : holdsB a b c d = true) (g : holdsB c d e f = true) : holdsB a b e f = true := by
  simp only [holdsB, Bool.and_eq_true, decide_eq_true_eq] at *; omega
theorem holds_same {a b c d : Int} (h : holdsB a b c d = true) (g : holdsB c d a b = true) : a = c ∧ b = d := by
  simp only [holdsB, Bool.and_eq_true, decide_eq_true_eq] at *; omega
theorem holds_self (a b : Int) : holdsB a b a b = true := by simp [holdsB]
theorem meets_on {a b c d e f : Int} (h : holdsB a b c d = true) (g : meetsB c d e f = true) : meetsB a b e f = true := by
  simp only [holdsB, meetsB, Bool.and_eq_true, decide_eq_true_eq] at *; omega

set_option maxHeartbeats 400000 in
theorem order_any (a b c d e f : Int) (w : World) :
    Calls Try.prog 5 #[.agg #[.int .i64 a, .int .i64 b], .agg #[.int .i64 c, .int .i64 d], .agg #[.int .i64 e, .int .i64 f]] w fun e w' => e = .returned (.bool true) ∧ Below w.heap.size w w' := by
  have h0 := holds_self a b
  have hF : From (w.heap.size + 3) (((w.alloc (.cells #[.int .i64 a, .int .i64 b] 23)).alloc (.cells #[.int .i64 c, .int .i64 d] 23)).alloc (.cells #[.int .i64 e, .int .i64 f] 23)) (((w.alloc (.cells #[.int .i64 a, .int .i64 b] 23)).alloc (.cells #[.int .i64 c, .int .i64 d] 23)).alloc (.cells #[.int .i64 e, .int .i64 f] 23)) :=
    ⟨by simp, Below.refl _ _⟩
  go_enter Try.func5, Try.ntmps5
  go_wp2_with (first | (go_at_call 12; refine (holds_from _ _ _ _ (by assumption)).mono ?_; clear hF; rintro e w1 ⟨rfl, hF⟩; obtain ⟨hc, hf⟩ := hF.cells) | (go_at_call 13; refine (meets_from _ _ _ _ (by assumption)).mono ?_; clear hF; rintro e w1 ⟨rfl, hF⟩; obtain ⟨hc, hf⟩ := hF.cells) | (go_at_call 6; refine (alive_from (by assumption)).mono ?_; clear hF; rintro e w1 ⟨rfl, hF⟩; obtain ⟨hc, hf⟩ := hF.cells))
  all_goals first
    | (go_ret; exact ⟨rfl, Below.trans (by go_grown) (hF.below.mono (by omega))⟩)
    | exact absurd (holds_on ‹holdsB a b c d = true› ‹_›) ‹_›
    | exact absurd (meets_on ‹holdsB a b c d = true› ‹_›) ‹_›
    | exact absurd (holds_self _ _) ‹_›
    | exact absurd (holds_same ‹holdsB a b c d = true› ‹_›).1 ‹_›
    | exact absurd (holds_same ‹holdsB a b c d = true› ‹_›).2 ‹_›

theorem order_walk (a b c d e f : Int) (w : World) (_ : (Lit.int .i64 a).wf = true) (_ : (Lit.int .i64 b).wf = true) (_ : (Lit.int .i64 c).wf = true) (_ : (Lit.int .i64 d).wf = true) (_ : (Lit.int .i64 e).wf = true) (_ : (Lit.int .i64 f).wf = true) :
    Calls Try.prog 5 #[.agg #[.int .i64 a, .int .i64 b], .agg #[.int .i64 c, .int .i64 d], .agg #[.int .i64 e, .int .i64 f]] w fun e w' => e = .returned (.bool true) ∧ Below w.heap.size w w' :=
  order_any a b c d e f w
end Go.Proofs.Ytacljmbeoekdoaa
