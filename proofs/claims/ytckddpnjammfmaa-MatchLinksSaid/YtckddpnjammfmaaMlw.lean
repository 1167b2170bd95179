/-
  The law MatchLinks, walked.
-/
import Derived.Test.YtckddpnjammfmaaRln
import Derived.Test.YtckddpnjammfmaaRcl
import Derived.Test.YtckddpnjammfmaaRlk
import Derived.Test.YtckddpnjammfmaaArp
namespace Go.Proofs.Ytckddpnjammfmaa
open Go.RowKit
set_option maxRecDepth 20000
set_option linter.unusedVariables false
set_option linter.unusedSimpArgs false

theorem is_nil (w : World) : IS w none 0 0 [] := ⟨rfl, .inl rfl⟩
theorem cls_rows (n : Nat) (l : List P2) : rowF n (lows n l (n + 1)) = rowF n (cls n l) := rowF_congr fun x hx => lows_cls n l x hx
set_option maxHeartbeats 16000000 in
theorem links_walk (p : Option Addr) (m c : Nat) (l : List P2) (n a b : Int) (w : World) (h : PS w p m c l ∧ ∀ p ∈ l, W64 p.1 ∧ W64 p.2) (hml : m ≤ maxLen) (hn : (Lit.int .i64 n).wf = true) (ha : (Lit.int .i64 a).wf = true) (hb : (Lit.int .i64 b).wf = true) :
    Calls Try.prog 5 #[.slice p m c, .int .i64 n, .int .i64 a, .int .i64 b] w fun e w' => e = .returned (.bool true) ∧ Below w.heap.size w w' := by
  have HP := Lib.hid h.1
  have HWF := Lib.hid h.2
  have HA := Lib.hid (w64_of ha)
  have HB := Lib.hid (w64_of hb)
  have HB0 := Lib.hid (Below.refl w.heap.size w)
  have HAL : Hid (∀ W, Below w.heap.size w W → Calls Try.prog 8 #[] W fun e w' => e = .returned (.bool true) ∧ Below w.heap.size w w') := Lib.hid fun W hW => by
    refine (alive_any W).mono ?_
    rintro e w' ⟨h1, h2⟩
    exact ⟨h1, hW.trans (h2.mono hW.size)⟩
  have HBD : Hid (∀ z, decide (m ≤ 60) = z → ∀ W, Calls Try.prog 13 #[.slice p m c] W fun e w' => e = .returned (.bool z) ∧ W = w') := Lib.hid fun z hz W => by rw [← hz]; exact bounded_any p m c W
  clear h hml hn ha hb
  by_cases hbig : 16777216 < n
  · by_cases h60 : m ≤ 60
    · have HC := Lib.hid (class_none n p m c w (.inr hbig))
      go_enter Try.func5, Try.ntmps5
      go_wp2_with fail
      refine (HBD.out true (by simp; omega) _).mono ?_
      rintro e w0 ⟨rfl, rfl⟩
      go_wp2_with fail
      refine HC.out.mono ?_
      rintro e w1 ⟨rfl, rfl⟩
      go_wp2_with fail
      refine (HAL.out _ HB0.out).mono ?_
      rintro e wz ⟨rfl, hbz⟩
      have HBz := Lib.hid hbz
      clear hbz
      go_wp2_with fail
      go_ret
      exact ⟨rfl, HBz.out⟩
    · go_enter Try.func5, Try.ntmps5
      go_wp2_with fail
      refine (HBD.out false (by simp; omega) _).mono ?_
      rintro e w0 ⟨rfl, rfl⟩
      go_wp2_with fail
      refine (HBD.out false (by simp; omega) _).mono ?_
      rintro e w0 ⟨rfl, rfl⟩
      go_wp2_with fail
      refine (HAL.out _ HB0.out).mono ?_
      rintro e wz ⟨rfl, hbz⟩
      have HBz := Lib.hid hbz
      clear hbz
      go_wp2_with fail
      go_ret
      exact ⟨rfl, HBz.out⟩
  · by_cases h60 : m ≤ 60
    · by_cases hn60 : 60 < n
      · go_enter Try.func5, Try.ntmps5
        go_wp2_with fail
        refine (HBD.out true (by simp; omega) _).mono ?_
        rintro e w0 ⟨rfl, rfl⟩
        go_wp2_with fail
        refine (HAL.out _ HB0.out).mono ?_
        rintro e wz ⟨rfl, hbz⟩
        have HBz := Lib.hid hbz
        clear hbz
        go_wp2_with fail
        go_ret
        exact ⟨rfl, HBz.out⟩
      · by_cases hneg : n < 0
        · skip
          go_enter Try.func5, Try.ntmps5
          go_wp2_with fail
          refine (HBD.out true (by simp; omega) _).mono ?_
          rintro e w0 ⟨rfl, rfl⟩
          have H15 := Lib.hid (links_any p m c l w HP.out h60)
          go_wp2_with fail
          refine H15.out.mono ?_
          rintro e w1 ⟨v1, rfl, ho1, hb1⟩
          have HO1 := Lib.hid ho1
          have HB1 := Lib.hid hb1
          clear ho1 hb1 H15
          have H16 := Lib.hid (refLinks_any p m c l w1 (HP.out.step HB1.out) h60)
          go_wp2_with fail
          refine H16.out.mono ?_
          rintro e w2 ⟨v2, rfl, ho2, hb2⟩
          obtain ⟨q1, n1, c1, hv1, hps1⟩ := HO1.out.ps
          subst hv1
          obtain ⟨q2, n2, c2, hv2, hps2⟩ := ho2.ps
          subst hv2
          have HB2 := Lib.hid (own_to hb2 HB1.out)
          have HPA := Lib.hid (pairs_any q1 q2 n1 n2 c1 c2 (puts l) (puts l) w2 (hps1.step hb2) hps2 (by have := hps1.1; have := puts_len l; have := HP.out.1; omega))
          simp only [decide_true] at HPA
          clear ho2 hb2 hps1 hps2 H16 HO1 HB1
          go_wp2_with fail
          refine HPA.out.mono ?_
          rintro e w3 ⟨rfl, hb3⟩
          have HB3 := Lib.hid (own_to hb3 HB2.out)
          clear hb3 HPA HB2
          have H14 := Lib.hid (class_none n p m c w3 (.inl hneg))
          go_wp2_with fail
          refine H14.out.mono ?_
          rintro e w4 ⟨rfl, rfl⟩
          have H18 := Lib.hid (refClass_neg n p m c w3 hneg)
          go_wp2_with fail
          refine H18.out.mono ?_
          rintro e w4 ⟨rfl, rfl⟩
          have H17 := Lib.hid (ints_any none none 0 0 0 0 [] [] w3 (is_nil w3) (is_nil w3) (by omega))
          simp only [decide_true] at H17
          go_wp2_with fail
          refine H17.out.mono ?_
          rintro e w5 ⟨rfl, hb5⟩
          have HB5 := Lib.hid (own_to hb5 HB3.out)
          clear hb5 H14 H18 H17 HB3
          have H19 := Lib.hid (linked_any p m c l a b w5 (HP.out.step HB5.out) h60 HWF.out HA.out HB.out)
          go_wp2_with fail
          refine H19.out.mono ?_
          rintro e w7 ⟨o7, rfl, hi7, hb7⟩
          have HO7 : Hid (inI (meets l a (l.length + 1)) b = o7) := Lib.hid (by
            have h1 := meets_iff l a b
            have : inI (meets l a (l.length + 1)) b = true ↔ o7 = true := by rw [h1, hi7]
            cases h2 : inI (meets l a (l.length + 1)) b <;> cases o7 <;> simp [h2] at this ⊢)
          have HB7 := Lib.hid (own_to hb7 HB5.out)
          clear hi7 hb7 H19 HB5
          have H20 := Lib.hid (refLinked_any p m c l a b w7 (HP.out.step HB7.out) h60)
          rw [HO7.out] at H20
          go_wp2_with fail
          refine H20.out.mono ?_
          rintro e w8 ⟨rfl, hb8⟩
          have HB8 := Lib.hid (own_to hb8 HB7.out)
          clear hb8 H20 HB7
          go_wp2_with fail
          refine (HAL.out _ HB8.out).mono ?_
          rintro e wz ⟨rfl, hbz⟩
          have HBz := Lib.hid hbz
          clear hbz
          go_wp2_with fail
          go_ret
          exact ⟨rfl, HBz.out⟩
        · obtain ⟨N, hN⟩ : ∃ N : Nat, n = (N : Int) := ⟨n.toNat, by omega⟩
          subst hN
          go_enter Try.func5, Try.ntmps5
          go_wp2_with fail
          refine (HBD.out true (by simp; omega) _).mono ?_
          rintro e w0 ⟨rfl, rfl⟩
          have H15 := Lib.hid (links_any p m c l w HP.out h60)
          go_wp2_with fail
          refine H15.out.mono ?_
          rintro e w1 ⟨v1, rfl, ho1, hb1⟩
          have HO1 := Lib.hid ho1
          have HB1 := Lib.hid hb1
          clear ho1 hb1 H15
          have H16 := Lib.hid (refLinks_any p m c l w1 (HP.out.step HB1.out) h60)
          go_wp2_with fail
          refine H16.out.mono ?_
          rintro e w2 ⟨v2, rfl, ho2, hb2⟩
          obtain ⟨q1, n1, c1, hv1, hps1⟩ := HO1.out.ps
          subst hv1
          obtain ⟨q2, n2, c2, hv2, hps2⟩ := ho2.ps
          subst hv2
          have HB2 := Lib.hid (own_to hb2 HB1.out)
          have HPA := Lib.hid (pairs_any q1 q2 n1 n2 c1 c2 (puts l) (puts l) w2 (hps1.step hb2) hps2 (by have := hps1.1; have := puts_len l; have := HP.out.1; omega))
          simp only [decide_true] at HPA
          clear ho2 hb2 hps1 hps2 H16 HO1 HB1
          go_wp2_with fail
          refine HPA.out.mono ?_
          rintro e w3 ⟨rfl, hb3⟩
          have HB3 := Lib.hid (own_to hb3 HB2.out)
          clear hb3 HPA HB2
          have H14 := Lib.hid (class_any N p m c l w3 (HP.out.step HB3.out) h60 (by omega))
          go_wp2_with fail
          refine H14.out.mono ?_
          rintro e w4 ⟨v4, rfl, ho4, hb4⟩
          have HO4 := Lib.hid ho4
          have HB4 := Lib.hid (own_to hb4 HB3.out)
          clear ho4 hb4 H14 HB3
          have H18 := Lib.hid (refClass_any N p m c l w4 (HP.out.step HB4.out) h60 (by omega))
          go_wp2_with fail
          refine H18.out.mono ?_
          rintro e w5 ⟨v5, rfl, ho5, hb5⟩
          rw [cls_rows] at ho5
          obtain ⟨q4, n4, c4, hv4, his4⟩ := HO4.out.is
          subst hv4
          obtain ⟨q5, n5, c5, hv5, his5⟩ := ho5.is
          subst hv5
          have HB5' := Lib.hid (own_to hb5 HB4.out)
          have H17 := Lib.hid (ints_any q4 q5 n4 n5 c4 c5 _ _ w5 (his4.step hb5) his5 (by have := his4.1; rw [rowF_len] at this; omega))
          simp only [decide_true] at H17
          clear ho5 hb5 his4 his5 H18 HO4 HB4
          go_wp2_with fail
          refine H17.out.mono ?_
          rintro e w6 ⟨rfl, hb6⟩
          have HB5 := Lib.hid (own_to hb6 HB5'.out)
          clear hb6 H17 HB5'
          have H19 := Lib.hid (linked_any p m c l a b w6 (HP.out.step HB5.out) h60 HWF.out HA.out HB.out)
          go_wp2_with fail
          refine H19.out.mono ?_
          rintro e w7 ⟨o7, rfl, hi7, hb7⟩
          have HO7 : Hid (inI (meets l a (l.length + 1)) b = o7) := Lib.hid (by
            have h1 := meets_iff l a b
            have : inI (meets l a (l.length + 1)) b = true ↔ o7 = true := by rw [h1, hi7]
            cases h2 : inI (meets l a (l.length + 1)) b <;> cases o7 <;> simp [h2] at this ⊢)
          have HB7 := Lib.hid (own_to hb7 HB5.out)
          clear hi7 hb7 H19 HB5
          have H20 := Lib.hid (refLinked_any p m c l a b w7 (HP.out.step HB7.out) h60)
          rw [HO7.out] at H20
          go_wp2_with fail
          refine H20.out.mono ?_
          rintro e w8 ⟨rfl, hb8⟩
          have HB8 := Lib.hid (own_to hb8 HB7.out)
          clear hb8 H20 HB7
          go_wp2_with fail
          refine (HAL.out _ HB8.out).mono ?_
          rintro e wz ⟨rfl, hbz⟩
          have HBz := Lib.hid hbz
          clear hbz
          go_wp2_with fail
          go_ret
          exact ⟨rfl, HBz.out⟩
    · go_enter Try.func5, Try.ntmps5
      go_wp2_with fail
      refine (HBD.out false (by simp; omega) _).mono ?_
      rintro e w0 ⟨rfl, rfl⟩
      go_wp2_with fail
      refine (HAL.out _ HB0.out).mono ?_
      rintro e wz ⟨rfl, hbz⟩
      have HBz := Lib.hid hbz
      clear hbz
      go_wp2_with fail
      go_ret
      exact ⟨rfl, HBz.out⟩
end Go.Proofs.Ytckddpnjammfmaa
