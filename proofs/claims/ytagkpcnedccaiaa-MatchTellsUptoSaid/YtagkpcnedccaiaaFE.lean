/-
  balance, where the left side is too high, its own right side higher.
-/
import Derived.Test.YtagkpcnedccaiaaFC
namespace Go.Proofs.Ytagkpcnedccaiaa
open Go.RowKit
set_option maxRecDepth 20000
set_option linter.unusedVariables false
set_option linter.unusedSimpArgs false
set_option maxHeartbeats 8000000 in
/-- The left side is too high, its own right side higher: two turns. -/
theorem bal_A2 (ll ml mr r : Tr) (lb mb b : Bd) (lg mg : Nat) (p : Option Addr) (w : World) (hl : TrAt w (.node lb ll (.node mb ml mr mg) lg)) (hr : TrAt w r) (hb : LkC w b p) (hn : ((Tr.node lb ll (.node mb ml mr mg) lg).toL ++ b :: r.toL).length ≤ 1000000) (hc1 : r.ht + 1 < (Tr.node lb ll (.node mb ml mr mg) lg).ht) (hc2 : ¬ (Tr.node mb ml mr mg).ht ≤ ll.ht) :
  Calls Try.prog 63 #[.pointer (at0 lg), .pointer (at0 b.lk), .pointer r.ptr] w (Made ((Tr.node lb ll (.node mb ml mr mg) lg).toL ++ b :: r.toL) w) := by
 obtain ⟨pl, hlb⟩ := hl.2.1
 have hll := hl.2.2.1
 have hmid := hl.2.2.2
 have hbig := hl
 obtain ⟨pm, hmb⟩ := hmid.2.1
 have hml := hmid.2.2.1
 have hmr := hmid.2.2.2
 have hN : ((ll.toL ++ lb :: (ml.toL ++ mb :: mr.toL)) ++ b :: r.toL).length ≤ 1000000 := hn
 simp only [List.length_append, List.length_cons] at hN
 have HJ1 : Hid (∀ W, Below w.heap.size w W → Calls Try.prog 62 #[.pointer ll.ptr, .pointer (at0 lb.lk), .pointer ml.ptr] W fun e w' => ∃ g, e = .returned (.pointer (at0 g)) ∧ TrAt w' (.node lb ll ml g) ∧ Below w.heap.size w w' ∧ Below W.heap.size W w') := Lib.hid fun W hW => join_at w ll ml lb _ hlb (by simp only [List.length_append, List.length_cons]; omega) W hW (hll.step hW) (hml.step hW)
 have HJ2 : Hid (∀ W, Below w.heap.size w W → Calls Try.prog 62 #[.pointer mr.ptr, .pointer (at0 b.lk), .pointer r.ptr] W fun e w' => ∃ g, e = .returned (.pointer (at0 g)) ∧ TrAt w' (.node b mr r g) ∧ Below w.heap.size w w' ∧ Below W.heap.size W w') := Lib.hid fun W hW => join_at w mr r b _ hb (by simp only [List.length_append, List.length_cons]; omega) W hW (hmr.step hW) (hr.step hW)
 have HJ3 : Hid (∀ W g1 g2, Below w.heap.size w W → TrAt W (.node lb ll ml g1) → TrAt W (.node b mr r g2) → Calls Try.prog 62 #[.pointer (at0 g1), .pointer (at0 mb.lk), .pointer (at0 g2)] W fun e w' => ∃ t : Tr, e = .returned (.pointer t.ptr) ∧ TrAt w' t ∧ t.toL = (ll.toL ++ lb :: (ml.toL ++ mb :: mr.toL)) ++ b :: r.toL ∧ Below w.heap.size w w') := Lib.hid fun W g1 g2 hW hg1 hg2 => by
  refine (join_at w (.node lb ll ml g1) (.node b mr r g2) mb pm hmb (by simp only [Tr.toL, List.length_append, List.length_cons]; omega) W hW hg1 hg2).mono ?_
  rintro e w' ⟨g', h1, h2, h3, _⟩
  exact ⟨.node mb (.node lb ll ml g1) (.node b mr r g2) g', h1, h2, by simp [Tr.toL], h3⟩
 have HRK : Hid (∀ W, Below w.heap.size w W → W.cell? ⟨lg, 0, none⟩ = some (.pointer (at0 lb.lk)) ∧ W.cell? ⟨lg, 1, none⟩ = some (.pointer ll.ptr) ∧ W.cell? ⟨lg, 2, none⟩ = some (.pointer (at0 mg)) ∧ W.cell? ⟨mg, 0, none⟩ = some (.pointer (at0 mb.lk)) ∧ W.cell? ⟨mg, 1, none⟩ = some (.pointer ml.ptr) ∧ W.cell? ⟨mg, 2, none⟩ = some (.pointer mr.ptr)) := Lib.hid fun W hW => by
  have x := (hbig.1.step hW).out
  have y := (hmid.1.step hW).out
  exact ⟨x.c0, x.c1, x.c2, y.c0, y.c1, y.c2⟩
 have hB2 := Tr.ht_le (Tr.node lb ll (.node mb ml mr mg) lg)
 have ho2 := Tr.ht_le ll
 have hm2 := Tr.ht_le (Tr.node mb ml mr mg)
 have hx2 := Tr.ht_le r
 simp only [Tr.toL, List.length_append, List.length_cons] at hB2 hm2
 have h1 : (Tr.node lb ll (.node mb ml mr mg) lg).ht ≤ 1000000 := by omega
 have h2 : r.ht ≤ 1000000 := by omega
 have h3 : ll.ht ≤ 1000000 := by omega
 have h4 : (Tr.node mb ml mr mg).ht ≤ 1000000 := by omega
 have EB : Hid (Calls Try.prog 72 #[.pointer (at0 lg)] w fun e w' => e = .returned (.int .i64 ((Tr.node lb ll (.node mb ml mr mg) lg).ht : Nat)) ∧ w = w') := Lib.hid (height_any (Tr.node lb ll (.node mb ml mr mg) lg) w hbig)
 have EX := Lib.hid (height_any r w hr)
 have E3 := Lib.hid (height_at w ll hll)
 have E4 : Hid (∀ d, Calls Try.prog 72 #[.pointer (at0 mg)] (w.drewN d) fun e w' => e = .returned (.int .i64 ((Tr.node mb ml mr mg).ht : Nat)) ∧ w' = w.drewN d) := Lib.hid (height_at w (.node mb ml mr mg) hmid)
 have g1 : decide ((1 : Int) < ((Tr.node lb ll (.node mb ml mr mg) lg).ht : Nat) - (r.ht : Nat)) = true := by simp; omega
 obtain ⟨c0, c1, c2, c3, c4, c5⟩ := HRK.out w (Below.refl _ _)
 have FINL : Hid ((Tr.node lb ll (.node mb ml mr mg) lg).toL ++ b :: r.toL = (ll.toL ++ lb :: (ml.toL ++ mb :: mr.toL)) ++ b :: r.toL) := Lib.hid rfl
 rw [FINL.out]
 clear hB2 ho2 hm2 hx2 hN hn hl hr hb hc1 hmid hbig hml hmr hmb hll hlb FINL
 generalize (ll.toL ++ lb :: (ml.toL ++ mb :: mr.toL)) ++ b :: r.toL = LL at *
 generalize ll.ptr = op at *
 generalize ml.ptr = mlp at *
 generalize mr.ptr = mrp at *
 generalize r.ptr = xp at *
 generalize at0 b.lk = bp at *
 generalize at0 mb.lk = mbp at *
 generalize at0 lb.lk = tbp at *
 generalize (Tr.node lb ll (.node mb ml mr mg) lg).ht = bh at *
 generalize r.ht = xh at *
 generalize ll.ht = oh at *
 generalize (Tr.node mb ml mr mg).ht = mh at *
 simp only [at0] at EB E4 c0 c1 c2 HRK ⊢
 go_enter Try.func63, Try.ntmps63
 go_wp2_with (first | (go_at_call 72; refine EB.out.mono ?_; rintro e wp ⟨rfl, rfl⟩) | (go_at_call 72; refine EX.out.mono ?_; rintro e wp ⟨rfl, rfl⟩))
 go_quiet (first | exact Calls.quiet_of_same (E3.out _) | exact Calls.quiet_of_same (E4.out _))
 go_wp2_with fail
 have HW0 : Hid (Below w.heap.size w (World.drew (World.drewN w nq))) := Lib.hid (below_q w nq).drew
 obtain ⟨d0, d1, d2, d3, d4, d5⟩ := HRK.out _ HW0.out
 go_region_held3 (fun W => W.cell? ⟨lg, 0, none⟩ = some (.pointer tbp) ∧ W.cell? ⟨lg, 1, none⟩ = some (.pointer op) ∧ W.cell? ⟨lg, 2, none⟩ = some (.pointer (some ⟨mg, 0, none⟩)) ∧ W.cell? ⟨mg, 0, none⟩ = some (.pointer mbp) ∧ W.cell? ⟨mg, 1, none⟩ = some (.pointer mlp) ∧ W.cell? ⟨mg, 2, none⟩ = some (.pointer mrp)) (first | exact ⟨d0, d1, d2, d3, d4, d5⟩ | exact ⟨y0, y1, y2, y3, y4, y5⟩ | go_keep) (first
  | (go_at_call 62; have hb2x := HB2.out; clear hb2x; refine (HJ3.out _ g1' g2' HB2.out (HT1.out.step HS2.out) HT2.out).mono ?_; rintro e wc ⟨t, rfl, hm1, hm2, hm3⟩; have HM := Lib.hid hm1; have HM3 := Lib.hid hm3; obtain ⟨y0, y1, y2, y3, y4, y5⟩ := HRK.out wc hm3; clear hm1 hm3)
  | (go_at_call 62; have hb1x := HB1.out; clear hb1x; refine (HJ2.out _ HB1.out).mono ?_; rintro e w2 ⟨g2', rfl, ht2, hb2, hb2'⟩; have HT2 := Lib.hid ht2; have HB2 := Lib.hid hb2; have HS2 := Lib.hid hb2'; obtain ⟨y0, y1, y2, y3, y4, y5⟩ := HRK.out w2 hb2; clear ht2 hb2 hb2')
  | (go_at_call 62; refine (HJ1.out _ HW0.out).mono ?_; rintro e w1 ⟨g1', rfl, ht1, hb1, hb1'⟩; have HT1 := Lib.hid ht1; have HB1 := Lib.hid hb1; have HS1 := Lib.hid hb1'; obtain ⟨y0, y1, y2, y3, y4, y5⟩ := HRK.out w1 hb1; clear ht1 hb1 hb1'))
 all_goals
  go_wp2_with fail
  go_ret
  exact ⟨t, rfl, HM.out, hm2, HM3.out⟩
end Go.Proofs.Ytagkpcnedccaiaa
