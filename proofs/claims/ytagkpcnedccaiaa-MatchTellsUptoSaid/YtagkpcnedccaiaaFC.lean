/-
  A node made of a tree, a link and a tree, turned where one side is higher by two (balance).
-/
import Derived.Test.YtagkpcnedccaiaaFA
namespace Go.Proofs.Ytagkpcnedccaiaa
open Go.RowKit
set_option maxRecDepth 20000
set_option linter.unusedVariables false
set_option linter.unusedSimpArgs false

theorem tr_of_ht {t : Tr} (h : 0 < t.ht) : ∃ b l r g, t = .node b l r g := by
 cases t with
 | nil => simp [Tr.ht] at h
 | node b l r g => exact ⟨b, l, r, g, rfl⟩
theorem below_q (w : World) (d : Nat) : Below w.heap.size w (w.drewN d) := below_drewN (Below.refl _ _) d
theorem below_d (w : World) : Below w.heap.size w w.drew := (Below.refl _ _).drew
/-- A join, in whatever world behind w. -/
def JoinAt (w : World) (l : Tr) (b : Bd) (r : Tr) : Prop := ∀ W, Below w.heap.size w W → TrAt W l → TrAt W r → Calls Try.prog 62 #[.pointer l.ptr, .pointer (at0 b.lk), .pointer r.ptr] W fun e w' => ∃ g, e = .returned (.pointer (at0 g)) ∧ TrAt w' (.node b l r g) ∧ Below w.heap.size w w' ∧ Below W.heap.size W w'
theorem join_at (w : World) (l r : Tr) (b : Bd) (p : Option Addr) (hb : LkC w b p) (hn : (l.toL ++ b :: r.toL).length ≤ 1000000) : JoinAt w l b r := fun W hW hl hr => by
 refine (join_node l r b p W hl hr (hb.step hW) hn).mono ?_
 rintro e w' ⟨g, h1, h2, h3, _⟩
 exact ⟨g, h1, h2, hW.trans (h3.mono hW.size), h3⟩
theorem height_at (w : World) (t : Tr) (h : TrAt w t) : ∀ d, Calls Try.prog 72 #[.pointer t.ptr] (w.drewN d) fun e w' => e = .returned (.int .i64 (t.ht : Nat)) ∧ w' = w.drewN d := fun d => by
 refine (height_any t (w.drewN d) (h.step (below_q w d))).mono ?_
 rintro e w' ⟨h1, h2⟩
 exact ⟨h1, h2.symm⟩

set_option maxHeartbeats 4000000 in
/-- Neither side is too high. -/
theorem bal_C (l r : Tr) (b : Bd) (p : Option Addr) (w : World) (hl : TrAt w l) (hr : TrAt w r) (hb : LkC w b p) (hn : (l.toL ++ b :: r.toL).length ≤ 1000000) (hc1 : l.ht ≤ r.ht + 1) (hc2 : r.ht ≤ l.ht + 1) :
  Calls Try.prog 63 #[.pointer l.ptr, .pointer (at0 b.lk), .pointer r.ptr] w (Made (l.toL ++ b :: r.toL) w) := by
 have HJ : Hid (∀ W, Below w.heap.size w W → Calls Try.prog 62 #[.pointer l.ptr, .pointer (at0 b.lk), .pointer r.ptr] W (Made (l.toL ++ b :: r.toL) w)) := Lib.hid fun W hW => by
  refine (join_at w l r b p hb hn W hW (hl.step hW) (hr.step hW)).mono ?_
  rintro e w' ⟨g, h1, h2, h3, _⟩
  exact ⟨.node b l r g, h1, h2, rfl, h3⟩
 have hl2 := Tr.ht_le l
 have hr2 := Tr.ht_le r
 simp only [List.length_append, List.length_cons] at hn
 have h1 : l.ht ≤ 1000000 := by omega
 have h2 : r.ht ≤ 1000000 := by omega
 have E1 := Lib.hid (height_any l w hl)
 have E2 := Lib.hid (height_any r w hr)
 clear hl2 hr2 hn
 have g1 : decide ((1 : Int) < (l.ht : Nat) - (r.ht : Nat)) = false := by simp; omega
 have g2 : decide (((l.ht : Nat) : Int) - (r.ht : Nat) < -1) = false := by simp; omega
 clear hl hr hb hc1 hc2
 generalize l.ptr = lp at *
 generalize r.ptr = rp at *
 generalize at0 b.lk = bp at *
 generalize l.ht = lh at *
 generalize r.ht = rh at *
 go_enter Try.func63, Try.ntmps63
 go_wp2_with (first | (go_at_call 72; refine E1.out.mono ?_; rintro e wp ⟨rfl, rfl⟩) | (go_at_call 72; refine E2.out.mono ?_; rintro e wp ⟨rfl, rfl⟩))
 go_quiet (fail)
 go_wp2_with fail
 go_quiet (fail)
 go_wp2_with (go_at_call 62; refine (HJ.out _ (by first | exact below_drewN (below_q w _) _ | exact below_q w _)).mono ?_; rintro e wq ⟨t, rfl, hm1, hm2, hm3⟩; have HM := Lib.hid hm1; have HM3 := Lib.hid hm3; clear hm1 hm3)
 go_ret
 exact ⟨t, rfl, HM.out, hm2, HM3.out⟩
end Go.Proofs.Ytagkpcnedccaiaa
