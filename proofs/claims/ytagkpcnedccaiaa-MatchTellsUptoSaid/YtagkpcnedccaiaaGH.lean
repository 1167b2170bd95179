/-
  The chapter's example (alive), walked.
-/
import Derived.Test.YtagkpcnedccaiaaFZ
import Derived.Test.YtagkpcnedccaiaaGG
import Derived.Test.YtagkpcnedccaiaaFR
namespace Go.Proofs.Ytagkpcnedccaiaa
open Go.RowKit
set_option maxRecDepth 20000
set_option linter.unusedVariables false
set_option linter.unusedSimpArgs false

def ex3 : List P2 := [(3, 1), (1, 3), (2, 2)]
theorem puts_ex3 : puts ex3 = [(1, 3)] := by decide
theorem cls_ex : rowF 4 (cls 4 [(1, 3)]) = [0, 1, 2, 1] := by decide
theorem cn_yes : Cn [((1 : Int), (3 : Int))] 3 1 := (Cn.pair (l := [((1 : Int), (3 : Int))]) (p := (1, 3)) (by simp)).symm
theorem cn_no : ¬ Cn [((1 : Int), (3 : Int))] 2 1 := fun h => by
 have := (h (fun z => z = 2) (fun p hp => by simp at hp; subst hp; simp)).1 rfl
 simp at this
theorem ex3_wf : ∀ p ∈ [((1 : Int), (3 : Int))], W64 p.1 ∧ W64 p.2 := fun p hp => by
 simp at hp; subst hp; unfold W64; simp
theorem ps_lit3 (w : World) : PS (w.alloc (.cells #[.int .i64 3, .int .i64 1, .int .i64 1, .int .i64 3, .int .i64 2, .int .i64 2] 48)) (some ⟨w.heap.size, 0, none⟩) 3 3 ex3 := by
 have e := heap_new w (.cells #[.int .i64 3, .int .i64 1, .int .i64 1, .int .i64 3, .int .i64 2, .int .i64 2] 48)
 refine ⟨rfl, .inr ⟨w.heap.size, 0, rfl, Nat.le_refl _, by simp, fun i p hi => ?_⟩⟩
 match i, hi with
 | 0, hi => cases hi; exact ⟨(cellH e _).trans rfl, (cellH e _).trans rfl⟩
 | 1, hi => cases hi; exact ⟨(cellH e _).trans rfl, (cellH e _).trans rfl⟩
 | 2, hi => cases hi; exact ⟨(cellH e _).trans rfl, (cellH e _).trans rfl⟩
 | j + 3, hi => simp [ex3] at hi
theorem ps_lit1 (w : World) (p : P2) : PS (w.alloc (.cells #[.int .i64 p.1, .int .i64 p.2] 48)) (some ⟨w.heap.size, 0, none⟩) 1 1 [p] := by
 have e := heap_new w (.cells #[.int .i64 p.1, .int .i64 p.2] 48)
 refine ⟨rfl, .inr ⟨w.heap.size, 0, rfl, Nat.le_refl _, by simp, fun i q hi => ?_⟩⟩
 match i, hi with
 | 0, hi => simp at hi; subst hi; exact ⟨(cellH e _).trans rfl, (cellH e _).trans rfl⟩
 | j + 1, hi => simp at hi
theorem is_lit4 (w : World) (a b c d : Int) : IS (w.alloc (.cells #[.int .i64 a, .int .i64 b, .int .i64 c, .int .i64 d] 3)) (some ⟨w.heap.size, 0, none⟩) 4 4 [a, b, c, d] := by
 have e := heap_new w (.cells #[.int .i64 a, .int .i64 b, .int .i64 c, .int .i64 d] 3)
 refine ⟨rfl, .inr ⟨w.heap.size, 0, rfl, Nat.le_refl _, by simp, fun i q hi => ?_⟩⟩
 match i, hi with
 | 0, hi => simp at hi; subst hi; exact (cellH e _).trans rfl
 | 1, hi => simp at hi; subst hi; exact (cellH e _).trans rfl
 | 2, hi => simp at hi; subst hi; exact (cellH e _).trans rfl
 | 3, hi => simp at hi; subst hi; exact (cellH e _).trans rfl
 | j + 4, hi => simp at hi
theorem own_to {w w1 w2 : World} (h : Below w1.heap.size w1 w2) (k : Below w.heap.size w w1) : Below w.heap.size w w2 := k.trans (h.mono k.size)
theorem wf_n (n : Int) (h : -1000 ≤ n ∧ n ≤ 1000) : W64 n := by unfold W64; omega
set_option maxHeartbeats 8000000 in
theorem alive_any (w : World) : Calls Try.prog 8 #[] w fun e w' => e = .returned (.bool true) ∧ Below w.heap.size w w' := by
 have HL0 := Lib.hid (links_any _ 3 3 ex3 _ (ps_lit3 w) (by omega))
 have HB0 := Lib.hid ((Below.refl w.heap.size w).alloc (Nat.le_refl _) (.cells #[.int .i64 3, .int .i64 1, .int .i64 1, .int .i64 3, .int .i64 2, .int .i64 2] 48))
 go_enter Try.func8, Try.ntmps8
 go_wp2_with fail
 refine HL0.out.mono ?_
 rintro e w1 ⟨v, rfl, ho, hb⟩
 rw [puts_ex3] at ho
 obtain ⟨q, n, c, rfl, hps⟩ := ho.ps
 have hn : n = 1 := hps.1
 subst hn
 have HPS := Lib.hid hps
 have HB1 := Lib.hid (own_to hb HB0.out)
 clear ho hb hps HL0 HB0
 have HW1 := Lib.hid ((Below.refl w1.heap.size w1).alloc (Nat.le_refl _) (.cells #[.int .i64 1, .int .i64 3] 48))
 have HP1 := Lib.hid (pairs_any q (some ⟨w1.heap.size, 0, none⟩) 1 1 c 1 [(1, 3)] [(1, 3)] _ (HPS.out.step HW1.out) (ps_lit1 w1 (1, 3)) (by omega))
 go_wp2_with fail
 refine HP1.out.mono ?_
 rintro e w2 ⟨rfl, hb2⟩
 have HW2 : Hid (Below w1.heap.size w1 w2) := Lib.hid (own_to hb2 HW1.out)
 clear hb2 HP1 HW1
 have HC1 := Lib.hid (class_any 4 q 1 c [(1, 3)] w2 (HPS.out.step HW2.out) (by omega) (by omega))
 go_wp2_with fail
 refine HC1.out.mono ?_
 rintro e w3 ⟨v3, rfl, ho3, hb3⟩
 rw [cls_ex] at ho3
 obtain ⟨q3, n3, c3, rfl, his3⟩ := ho3.is
 have HIS3 := Lib.hid his3
 have hn3 : n3 = 4 := his3.1
 subst hn3
 have HW3 : Hid (Below w1.heap.size w1 w3) := Lib.hid (own_to hb3 HW2.out)
 clear ho3 hb3 his3 HC1 HW2
 have HI3 := Lib.hid (ints_any q3 (some ⟨w3.heap.size, 0, none⟩) 4 4 c3 4 [0, 1, 2, 1] [0, 1, 2, 1] _ (HIS3.out.step ((Below.refl w3.heap.size w3).alloc (Nat.le_refl _) (.cells #[.int .i64 0, .int .i64 1, .int .i64 2, .int .i64 1] 3))) (is_lit4 w3 0 1 2 1) (by omega))
 have HW3' := Lib.hid (HW3.out.alloc HW3.out.size (.cells #[.int .i64 0, .int .i64 1, .int .i64 2, .int .i64 1] 3))
 go_wp2_with fail
 refine HI3.out.mono ?_
 rintro e w4 ⟨rfl, hb4⟩
 have HW4 : Hid (Below w1.heap.size w1 w4) := Lib.hid (own_to hb4 HW3'.out)
 clear hb4 HI3 HW3 HW3' HIS3
 have HK4 := Lib.hid (linked_any q 1 c [(1, 3)] 3 1 w4 (HPS.out.step HW4.out) (by omega) ex3_wf (wf_n 3 (by omega)) (wf_n 1 (by omega)))
 go_wp2_with fail
 refine HK4.out.mono ?_
 rintro e w5 ⟨o5, rfl, hi5, hb5⟩
 have ho5 : o5 = true := hi5.2 cn_yes
 subst ho5
 have HW5 : Hid (Below w1.heap.size w1 w5) := Lib.hid (own_to hb5 HW4.out)
 clear hi5 hb5 HK4 HW4
 have HK5 := Lib.hid (linked_any q 1 c [(1, 3)] 2 1 w5 (HPS.out.step HW5.out) (by omega) ex3_wf (wf_n 2 (by omega)) (wf_n 1 (by omega)))
 go_wp2_with fail
 refine HK5.out.mono ?_
 rintro e w6 ⟨o6, rfl, hi6, hb6⟩
 have ho6 : o6 = false := by
  cases o6 with
  | false => rfl
  | true => exact absurd (hi6.1 rfl) cn_no
 subst ho6
 have HW6 : Hid (Below w.heap.size w w6) := Lib.hid (own_to (own_to hb6 HW5.out) HB1.out)
 clear hi6 hb6 HK5 HW5
 go_wp2_with fail
 go_ret
 exact ⟨rfl, HW6.out⟩
end Go.Proofs.Ytagkpcnedccaiaa
