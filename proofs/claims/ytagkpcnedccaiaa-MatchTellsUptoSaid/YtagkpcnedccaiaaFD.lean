/-
  balance, where the left side is too high, its own left side not lower.
-/
import Derived.Test.YtagkpcnedccaiaaFC
namespace Go.Proofs.Ytagkpcnedccaiaa
open Go.RowKit
set_option maxRecDepth 20000
set_option linter.unusedVariables false
set_option linter.unusedSimpArgs false

set_option maxHeartbeats 8000000 in
/-- The left side is too high, its own left side not lower: one turn. -/
theorem bal_A1 (ll lr r : Tr) (lb b : Bd) (lg : Nat) (p : Option Addr) (w : World) (hl : TrAt w (.node lb ll lr lg)) (hr : TrAt w r) (hb : LkC w b p) (hn : ((Tr.node lb ll lr lg).toL ++ b :: r.toL).length ≤ 1000000) (hc1 : r.ht + 1 < (Tr.node lb ll lr lg).ht) (hc2 : lr.ht ≤ ll.ht) :
  Calls Try.prog 63 #[.pointer (at0 lg), .pointer (at0 b.lk), .pointer r.ptr] w (Made ((Tr.node lb ll lr lg).toL ++ b :: r.toL) w) := by
 obtain ⟨pl, hlb⟩ := hl.2.1
 have hll := hl.2.2.1
 have hlr := hl.2.2.2
 have hN : ((ll.toL ++ lb :: lr.toL) ++ b :: r.toL).length ≤ 1000000 := hn
 simp only [List.length_append, List.length_cons] at hN
 have HJ1 : Hid (∀ W, Below w.heap.size w W → Calls Try.prog 62 #[.pointer lr.ptr, .pointer (at0 b.lk), .pointer r.ptr] W fun e w' => ∃ g, e = .returned (.pointer (at0 g)) ∧ TrAt w' (.node b lr r g) ∧ Below w.heap.size w w' ∧ Below W.heap.size W w') := Lib.hid fun W hW => join_at w lr r b p hb (by simp only [List.length_append, List.length_cons]; omega) W hW (hlr.step hW) (hr.step hW)
 have HJ2 : Hid (∀ W g, Below w.heap.size w W → TrAt W (.node b lr r g) → Calls Try.prog 62 #[.pointer ll.ptr, .pointer (at0 lb.lk), .pointer (at0 g)] W fun e w' => ∃ t : Tr, e = .returned (.pointer t.ptr) ∧ TrAt w' t ∧ t.toL = (ll.toL ++ lb :: lr.toL) ++ b :: r.toL ∧ Below w.heap.size w w') := Lib.hid fun W g hW hg => by
  refine (join_at w ll (.node b lr r g) lb pl hlb (by simp only [Tr.toL, List.length_append, List.length_cons]; omega) W hW (hll.step hW) hg).mono ?_
  rintro e w' ⟨g', h1, h2, h3, _⟩
  exact ⟨.node lb ll (.node b lr r g) g', h1, h2, by simp [Tr.toL], h3⟩
 have HRK : Hid (∀ W, Below w.heap.size w W → W.cell? ⟨lg, 0, none⟩ = some (.pointer (at0 lb.lk)) ∧ W.cell? ⟨lg, 1, none⟩ = some (.pointer ll.ptr) ∧ W.cell? ⟨lg, 2, none⟩ = some (.pointer lr.ptr)) := Lib.hid fun W hW => by
  have := (hl.1.step hW).out
  exact ⟨this.c0, this.c1, this.c2⟩
 have hl2 := Tr.ht_le (.node lb ll lr lg)
 have hr2 := Tr.ht_le r
 have hll2 := Tr.ht_le ll
 have hlr2 := Tr.ht_le lr
 simp only [Tr.toL, List.length_append, List.length_cons] at hl2
 have h1 : (Tr.node lb ll lr lg).ht ≤ 1000000 := by omega
 have h2 : r.ht ≤ 1000000 := by omega
 have h3 : ll.ht ≤ 1000000 := by omega
 have h4 : lr.ht ≤ 1000000 := by omega
 have E1 : Hid (Calls Try.prog 72 #[.pointer (at0 lg)] w fun e w' => e = .returned (.int .i64 ((Tr.node lb ll lr lg).ht : Nat)) ∧ w = w') := Lib.hid (height_any (.node lb ll lr lg) w hl)
 have E2 := Lib.hid (height_any r w hr)
 have E3 := Lib.hid (height_at w ll hll)
 have E4 := Lib.hid (height_at w lr hlr)
 have g1 : decide ((1 : Int) < ((Tr.node lb ll lr lg).ht : Nat) - (r.ht : Nat)) = true := by simp; omega
 obtain ⟨c0, c1, c2⟩ := HRK.out w (Below.refl _ _)
 have FINL : Hid ((Tr.node lb ll lr lg).toL ++ b :: r.toL = (ll.toL ++ lb :: lr.toL) ++ b :: r.toL) := Lib.hid rfl
 rw [FINL.out]
 have hgc : Hid (lg < w.heap.size) := Lib.hid (heap_lt hl.1)
 clear hl2 hr2 hll2 hlr2 hN hn hl hr hb hc1 hll hlr hlb FINL
 generalize (ll.toL ++ lb :: lr.toL) ++ b :: r.toL = LL at *
 generalize ll.ptr = llp at *
 generalize lr.ptr = lrp at *
 generalize r.ptr = rp at *
 generalize at0 b.lk = bp at *
 generalize at0 lb.lk = lbp at *
 generalize (Tr.node lb ll lr lg).ht = lh at *
 generalize r.ht = rh at *
 generalize ll.ht = llh at *
 generalize lr.ht = lrh at *
 simp only [at0] at E1 ⊢
 go_enter Try.func63, Try.ntmps63
 go_wp2_with (first | (go_at_call 72; refine E1.out.mono ?_; rintro e wp ⟨rfl, rfl⟩) | (go_at_call 72; refine E2.out.mono ?_; rintro e wp ⟨rfl, rfl⟩))
 go_quiet (first | exact Calls.quiet_of_same (E3.out _) | exact Calls.quiet_of_same (E4.out _))
 go_wp2_with fail
 obtain ⟨d0, d1, d2⟩ := HRK.out (World.drew (World.drewN w nq)) (below_q w nq).drew
 go_region_held3 (fun W => W.cell? ⟨lg, 0, none⟩ = some (.pointer lbp) ∧ W.cell? ⟨lg, 1, none⟩ = some (.pointer llp) ∧ W.cell? ⟨lg, 2, none⟩ = some (.pointer lrp)) (first | exact ⟨d0, d1, d2⟩ | exact ⟨y0, y1, y2⟩ | go_keep) (first
  | (go_at_call 62; have hb1x := HB1.out; clear hb1x; refine (HJ2.out _ g1 HB1.out HT1.out).mono ?_; rintro e wb ⟨t, rfl, hm1, hm2, hm3⟩; have HM := Lib.hid hm1; have HM3 := Lib.hid hm3; obtain ⟨y0, y1, y2⟩ := HRK.out wb hm3; clear hm1 hm3)
  | (go_at_call 62; refine (HJ1.out _ (below_q w nq).drew).mono ?_; rintro e wa ⟨g1, rfl, ht1, hb1, hb1'⟩; have HT1 := Lib.hid ht1; have HB1 := Lib.hid hb1; obtain ⟨y0, y1, y2⟩ := HRK.out wa hb1; clear ht1 hb1 hb1'))
 all_goals
  go_wp2_with fail
  go_ret
  exact ⟨t, rfl, HM.out, hm2, HM3.out⟩
end Go.Proofs.Ytagkpcnedccaiaa
