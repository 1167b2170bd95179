/-
  balance, where the right side is too high, its own left side higher.
-/
import Derived.Test.YtagkpcnedccaiaaFC
namespace Go.Proofs.Ytagkpcnedccaiaa
open Go.RowKit
set_option maxRecDepth 20000
set_option linter.unusedVariables false
set_option linter.unusedSimpArgs false
set_option maxHeartbeats 8000000 in
/-- The right side is too high, its own left side higher: two turns. -/
theorem bal_B2 (l ml mr rr : Tr) (rb mb b : Bd) (rg mg : Nat) (p : Option Addr) (w : World) (hl : TrAt w l) (hr : TrAt w (.node rb (.node mb ml mr mg) rr rg)) (hb : LkC w b p) (hn : (l.toL ++ b :: (Tr.node rb (.node mb ml mr mg) rr rg).toL).length ≤ 1000000) (hc1 : l.ht + 1 < (Tr.node rb (.node mb ml mr mg) rr rg).ht) (hc2 : ¬ (Tr.node mb ml mr mg).ht ≤ rr.ht) :
  Calls Try.prog 63 #[.pointer l.ptr, .pointer (at0 b.lk), .pointer (at0 rg)] w (Made (l.toL ++ b :: (Tr.node rb (.node mb ml mr mg) rr rg).toL) w) := by
 obtain ⟨pl, hrb⟩ := hr.2.1
 have hmid := hr.2.2.1
 have hrr := hr.2.2.2
 have hbig := hr
 obtain ⟨pm, hmb⟩ := hmid.2.1
 have hml := hmid.2.2.1
 have hmr := hmid.2.2.2
 have hN : (l.toL ++ b :: ((ml.toL ++ mb :: mr.toL) ++ rb :: rr.toL)).length ≤ 1000000 := hn
 simp only [List.length_append, List.length_cons] at hN
 have HJ1 : Hid (∀ W, Below w.heap.size w W → Calls Try.prog 62 #[.pointer l.ptr, .pointer (at0 b.lk), .pointer ml.ptr] W fun e w' => ∃ g, e = .returned (.pointer (at0 g)) ∧ TrAt w' (.node b l ml g) ∧ Below w.heap.size w w' ∧ Below W.heap.size W w') := Lib.hid fun W hW => join_at w l ml b _ hb (by simp only [List.length_append, List.length_cons]; omega) W hW (hl.step hW) (hml.step hW)
 have HJ2 : Hid (∀ W, Below w.heap.size w W → Calls Try.prog 62 #[.pointer mr.ptr, .pointer (at0 rb.lk), .pointer rr.ptr] W fun e w' => ∃ g, e = .returned (.pointer (at0 g)) ∧ TrAt w' (.node rb mr rr g) ∧ Below w.heap.size w w' ∧ Below W.heap.size W w') := Lib.hid fun W hW => join_at w mr rr rb _ hrb (by simp only [List.length_append, List.length_cons]; omega) W hW (hmr.step hW) (hrr.step hW)
 have HJ3 : Hid (∀ W g1 g2, Below w.heap.size w W → TrAt W (.node b l ml g1) → TrAt W (.node rb mr rr g2) → Calls Try.prog 62 #[.pointer (at0 g1), .pointer (at0 mb.lk), .pointer (at0 g2)] W fun e w' => ∃ t : Tr, e = .returned (.pointer t.ptr) ∧ TrAt w' t ∧ t.toL = l.toL ++ b :: ((ml.toL ++ mb :: mr.toL) ++ rb :: rr.toL) ∧ Below w.heap.size w w') := Lib.hid fun W g1 g2 hW hg1 hg2 => by
  refine (join_at w (.node b l ml g1) (.node rb mr rr g2) mb pm hmb (by simp only [Tr.toL, List.length_append, List.length_cons]; omega) W hW hg1 hg2).mono ?_
  rintro e w' ⟨g', h1, h2, h3, _⟩
  exact ⟨.node mb (.node b l ml g1) (.node rb mr rr g2) g', h1, h2, by simp [Tr.toL], h3⟩
 have HRK : Hid (∀ W, Below w.heap.size w W → W.cell? ⟨rg, 0, none⟩ = some (.pointer (at0 rb.lk)) ∧ W.cell? ⟨rg, 1, none⟩ = some (.pointer (at0 mg)) ∧ W.cell? ⟨rg, 2, none⟩ = some (.pointer rr.ptr) ∧ W.cell? ⟨mg, 0, none⟩ = some (.pointer (at0 mb.lk)) ∧ W.cell? ⟨mg, 1, none⟩ = some (.pointer ml.ptr) ∧ W.cell? ⟨mg, 2, none⟩ = some (.pointer mr.ptr)) := Lib.hid fun W hW => by
  have x := (hbig.1.step hW).out
  have y := (hmid.1.step hW).out
  exact ⟨x.c0, x.c1, x.c2, y.c0, y.c1, y.c2⟩
 have hB2 := Tr.ht_le (Tr.node rb (.node mb ml mr mg) rr rg)
 have ho2 := Tr.ht_le rr
 have hm2 := Tr.ht_le (Tr.node mb ml mr mg)
 have hx2 := Tr.ht_le l
 simp only [Tr.toL, List.length_append, List.length_cons] at hB2 hm2
 have h1 : (Tr.node rb (.node mb ml mr mg) rr rg).ht ≤ 1000000 := by omega
 have h2 : l.ht ≤ 1000000 := by omega
 have h3 : rr.ht ≤ 1000000 := by omega
 have h4 : (Tr.node mb ml mr mg).ht ≤ 1000000 := by omega
 have EB : Hid (Calls Try.prog 72 #[.pointer (at0 rg)] w fun e w' => e = .returned (.int .i64 ((Tr.node rb (.node mb ml mr mg) rr rg).ht : Nat)) ∧ w = w') := Lib.hid (height_any (Tr.node rb (.node mb ml mr mg) rr rg) w hbig)
 have EX := Lib.hid (height_any l w hl)
 have E3 := Lib.hid (fun W (hW : Below w.heap.size w W) => height_at W rr (hrr.step hW))
 have E4 : Hid (∀ W, Below w.heap.size w W → ∀ d, Calls Try.prog 72 #[.pointer (at0 mg)] (W.drewN d) fun e w' => e = .returned (.int .i64 ((Tr.node mb ml mr mg).ht : Nat)) ∧ w' = W.drewN d) := Lib.hid (fun W hW => height_at W (.node mb ml mr mg) (hmid.step hW))
 have g1 : decide ((1 : Int) < (l.ht : Nat) - ((Tr.node rb (.node mb ml mr mg) rr rg).ht : Nat)) = false := by simp; omega
 have g2 : (((l.ht : Nat) : Int) - ((Tr.node rb (.node mb ml mr mg) rr rg).ht : Nat) < -1) := by omega
 obtain ⟨c0, c1, c2, c3, c4, c5⟩ := HRK.out w (Below.refl _ _)
 have FINL : Hid (l.toL ++ b :: (Tr.node rb (.node mb ml mr mg) rr rg).toL = l.toL ++ b :: ((ml.toL ++ mb :: mr.toL) ++ rb :: rr.toL)) := Lib.hid rfl
 rw [FINL.out]
 clear hB2 ho2 hm2 hx2 hN hn hl hr hb hc1 hmid hbig hml hmr hmb hrr hrb FINL
 generalize l.toL ++ b :: ((ml.toL ++ mb :: mr.toL) ++ rb :: rr.toL) = LL at *
 generalize rr.ptr = op at *
 generalize ml.ptr = mlp at *
 generalize mr.ptr = mrp at *
 generalize l.ptr = xp at *
 generalize at0 b.lk = bp at *
 generalize at0 mb.lk = mbp at *
 generalize at0 rb.lk = tbp at *
 generalize (Tr.node rb (.node mb ml mr mg) rr rg).ht = bh at *
 generalize l.ht = xh at *
 generalize rr.ht = oh at *
 generalize (Tr.node mb ml mr mg).ht = mh at *
 simp only [at0] at EB E4 c0 c1 c2 HRK ⊢
 go_enter Try.func63, Try.ntmps63
 go_wp2_with (first | (go_at_call 72; refine EB.out.mono ?_; rintro e wp ⟨rfl, rfl⟩) | (go_at_call 72; refine EX.out.mono ?_; rintro e wp ⟨rfl, rfl⟩))
 go_quiet (fail)
 have HQ1 := Lib.hid (below_q w nq)
 go_wp2_with fail
 go_quiet (first | exact (E3.out _ (Below.refl _ _) _).mono fun e w' h => ⟨h.1, _, h.2⟩ | exact (E4.out _ (Below.refl _ _) _).mono fun e w' h => ⟨h.1, _, h.2⟩)
 go_wp2_with fail
 go_region_held3 (fun W => W.cell? ⟨rg, 0, none⟩ = some (.pointer tbp) ∧ W.cell? ⟨rg, 1, none⟩ = some (.pointer (some ⟨mg, 0, none⟩)) ∧ W.cell? ⟨rg, 2, none⟩ = some (.pointer op) ∧ W.cell? ⟨mg, 0, none⟩ = some (.pointer mbp) ∧ W.cell? ⟨mg, 1, none⟩ = some (.pointer mlp) ∧ W.cell? ⟨mg, 2, none⟩ = some (.pointer mrp)) (first | exact HRK.out _ (below_q w _) | exact ⟨y0, y1, y2, y3, y4, y5⟩ | go_keep) (first
  | (go_at_call 62; have hb2x := HB2.out; clear hb2x; refine (HJ3.out _ g1' g2' HB2.out (HT1.out.step HS2.out) HT2.out).mono ?_; rintro e wc ⟨t, rfl, hm1, hm2, hm3⟩; have HM := Lib.hid hm1; have HM3 := Lib.hid hm3; obtain ⟨y0, y1, y2, y3, y4, y5⟩ := HRK.out wc hm3; clear hm1 hm3)
  | (go_at_call 62; have hb1x := HB1.out; clear hb1x; refine (HJ2.out _ HB1.out).mono ?_; rintro e w2 ⟨g2', rfl, ht2, hb2, hb2'⟩; have HT2 := Lib.hid ht2; have HB2 := Lib.hid hb2; have HS2 := Lib.hid hb2'; obtain ⟨y0, y1, y2, y3, y4, y5⟩ := HRK.out w2 hb2; clear ht2 hb2 hb2')
  | (go_at_call 62; refine (HJ1.out _ (below_q w _)).mono ?_; rintro e w1 ⟨g1', rfl, ht1, hb1, hb1'⟩; have HT1 := Lib.hid ht1; have HB1 := Lib.hid hb1; have HS1 := Lib.hid hb1'; obtain ⟨y0, y1, y2, y3, y4, y5⟩ := HRK.out w1 hb1; clear ht1 hb1 hb1'))
 all_goals
  go_wp2_with fail
  go_ret
  exact ⟨t, rfl, HM.out, hm2, HM3.out⟩
end Go.Proofs.Ytagkpcnedccaiaa
