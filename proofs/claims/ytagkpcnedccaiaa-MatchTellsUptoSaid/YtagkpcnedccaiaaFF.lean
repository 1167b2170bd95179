/-
  balance, where the right side is too high, its own right side not lower.
-/
import Derived.Test.YtagkpcnedccaiaaFC
namespace Go.Proofs.Ytagkpcnedccaiaa
open Go.RowKit
set_option maxRecDepth 20000
set_option linter.unusedVariables false
set_option linter.unusedSimpArgs false
set_option maxHeartbeats 8000000 in
/-- The right side is too high, its own right side not lower: one turn. -/
theorem bal_B1 (l rl rr : Tr) (rb b : Bd) (rg : Nat) (p : Option Addr) (w : World) (hl : TrAt w l) (hr : TrAt w (.node rb rl rr rg)) (hb : LkC w b p) (hn : (l.toL ++ b :: (Tr.node rb rl rr rg).toL).length ≤ 1000000) (hc1 : l.ht + 1 < (Tr.node rb rl rr rg).ht) (hc2 : rl.ht ≤ rr.ht) :
  Calls Try.prog 63 #[.pointer l.ptr, .pointer (at0 b.lk), .pointer (at0 rg)] w (Made (l.toL ++ b :: (Tr.node rb rl rr rg).toL) w) := by
 obtain ⟨pl, hrb⟩ := hr.2.1
 have hrl := hr.2.2.1
 have hrr := hr.2.2.2
 have hN : (l.toL ++ b :: (rl.toL ++ rb :: rr.toL)).length ≤ 1000000 := hn
 simp only [List.length_append, List.length_cons] at hN
 have HJ1 : Hid (∀ W, Below w.heap.size w W → Calls Try.prog 62 #[.pointer l.ptr, .pointer (at0 b.lk), .pointer rl.ptr] W fun e w' => ∃ g, e = .returned (.pointer (at0 g)) ∧ TrAt w' (.node b l rl g) ∧ Below w.heap.size w w' ∧ Below W.heap.size W w') := Lib.hid fun W hW => join_at w l rl b _ hb (by simp only [List.length_append, List.length_cons]; omega) W hW (hl.step hW) (hrl.step hW)
 have HJ2 : Hid (∀ W g, Below w.heap.size w W → TrAt W (.node b l rl g) → Calls Try.prog 62 #[.pointer (at0 g), .pointer (at0 rb.lk), .pointer rr.ptr] W fun e w' => ∃ t : Tr, e = .returned (.pointer t.ptr) ∧ TrAt w' t ∧ t.toL = l.toL ++ b :: (rl.toL ++ rb :: rr.toL) ∧ Below w.heap.size w w') := Lib.hid fun W g hW hg => by
  refine (join_at w (.node b l rl g) rr rb pl hrb (by simp only [Tr.toL, List.length_append, List.length_cons]; omega) W hW hg (hrr.step hW)).mono ?_
  rintro e w' ⟨g', h1, h2, h3, _⟩
  exact ⟨.node rb (.node b l rl g) rr g', h1, h2, by simp [Tr.toL], h3⟩
 have HRK : Hid (∀ W, Below w.heap.size w W → W.cell? ⟨rg, 0, none⟩ = some (.pointer (at0 rb.lk)) ∧ W.cell? ⟨rg, 1, none⟩ = some (.pointer rl.ptr) ∧ W.cell? ⟨rg, 2, none⟩ = some (.pointer rr.ptr)) := Lib.hid fun W hW => by
  have := (hr.1.step hW).out
  exact ⟨this.c0, this.c1, this.c2⟩
 have hB2 := Tr.ht_le (.node rb rl rr rg)
 have hx2 := Tr.ht_le l
 have hrl2 := Tr.ht_le rl
 have hrr2 := Tr.ht_le rr
 simp only [Tr.toL, List.length_append, List.length_cons] at hB2
 have h1 : (Tr.node rb rl rr rg).ht ≤ 1000000 := by omega
 have h2 : l.ht ≤ 1000000 := by omega
 have h3 : rl.ht ≤ 1000000 := by omega
 have h4 : rr.ht ≤ 1000000 := by omega
 have EB : Hid (Calls Try.prog 72 #[.pointer (at0 rg)] w fun e w' => e = .returned (.int .i64 ((Tr.node rb rl rr rg).ht : Nat)) ∧ w = w') := Lib.hid (height_any (.node rb rl rr rg) w hr)
 have EX := Lib.hid (height_any l w hl)
 have E3 := Lib.hid (fun W (hW : Below w.heap.size w W) => height_at W rl (hrl.step hW))
 have E4 := Lib.hid (fun W (hW : Below w.heap.size w W) => height_at W rr (hrr.step hW))
 have g1 : decide ((1 : Int) < (l.ht : Nat) - ((Tr.node rb rl rr rg).ht : Nat)) = false := by simp; omega
 have g2 : (((l.ht : Nat) : Int) - ((Tr.node rb rl rr rg).ht : Nat) < -1) := by omega
 obtain ⟨c0, c1, c2⟩ := HRK.out w (Below.refl _ _)
 have FINL : Hid (l.toL ++ b :: (Tr.node rb rl rr rg).toL = l.toL ++ b :: (rl.toL ++ rb :: rr.toL)) := Lib.hid rfl
 rw [FINL.out]
 clear hB2 hx2 hrl2 hrr2 hN hn hl hr hb hc1 hrl hrr hrb FINL
 generalize l.toL ++ b :: (rl.toL ++ rb :: rr.toL) = LL at *
 generalize rl.ptr = rlp at *
 generalize rr.ptr = rrp at *
 generalize l.ptr = xp at *
 generalize at0 b.lk = bp at *
 generalize at0 rb.lk = rbp at *
 generalize (Tr.node rb rl rr rg).ht = bh at *
 generalize l.ht = xh at *
 generalize rl.ht = rlh at *
 generalize rr.ht = rrh at *
 simp only [at0] at EB ⊢
 go_enter Try.func63, Try.ntmps63
 go_wp2_with (first | (go_at_call 72; refine EB.out.mono ?_; rintro e wp ⟨rfl, rfl⟩) | (go_at_call 72; refine EX.out.mono ?_; rintro e wp ⟨rfl, rfl⟩))
 go_quiet (fail)
 have HQ1 := Lib.hid (below_q w nq)
 go_wp2_with fail
 go_quiet (first | exact (E3.out _ (Below.refl _ _) _).mono fun e w' h => ⟨h.1, _, h.2⟩ | exact (E4.out _ (Below.refl _ _) _).mono fun e w' h => ⟨h.1, _, h.2⟩)
 go_wp2_with fail
 go_region_held3 (fun W => W.cell? ⟨rg, 0, none⟩ = some (.pointer rbp) ∧ W.cell? ⟨rg, 1, none⟩ = some (.pointer rlp) ∧ W.cell? ⟨rg, 2, none⟩ = some (.pointer rrp)) (first | exact HRK.out _ (below_q w _) | exact ⟨y0, y1, y2⟩ | go_keep) (first
  | (go_at_call 62; have hb1x := HB1.out; clear hb1x; refine (HJ2.out _ g1' HB1.out HT1.out).mono ?_; rintro e wb ⟨t, rfl, hm1, hm2, hm3⟩; have HM := Lib.hid hm1; have HM3 := Lib.hid hm3; obtain ⟨y0, y1, y2⟩ := HRK.out wb hm3; clear hm1 hm3)
  | (go_at_call 62; refine (HJ1.out _ (below_q w _)).mono ?_; rintro e w1 ⟨g1', rfl, ht1, hb1, hb1'⟩; have HT1 := Lib.hid ht1; have HB1 := Lib.hid hb1; have HS1 := Lib.hid hb1'; obtain ⟨y0, y1, y2⟩ := HRK.out w1 hb1; clear ht1 hb1 hb1'))
 all_goals
  go_wp2_with fail
  go_ret
  exact ⟨t, rfl, HM.out, hm2, HM3.out⟩
end Go.Proofs.Ytagkpcnedccaiaa
