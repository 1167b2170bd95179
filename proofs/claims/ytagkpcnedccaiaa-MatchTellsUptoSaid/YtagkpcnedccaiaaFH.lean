/-
  balance in every case; what is put into a tree (with).
-/
import Derived.Test.YtagkpcnedccaiaaFD
import Derived.Test.YtagkpcnedccaiaaFE
import Derived.Test.YtagkpcnedccaiaaFF
import Derived.Test.YtagkpcnedccaiaaFG
namespace Go.Proofs.Ytagkpcnedccaiaa
open Go.RowKit
set_option maxRecDepth 20000
set_option linter.unusedVariables false
set_option linter.unusedSimpArgs false

theorem balance_any (l r : Tr) (b : Bd) (p : Option Addr) (w : World) (hl : TrAt w l) (hr : TrAt w r) (hb : LkC w b p) (hn : (l.toL ++ b :: r.toL).length ≤ 1000000) :
  Calls Try.prog 63 #[.pointer l.ptr, .pointer (at0 b.lk), .pointer r.ptr] w (Made (l.toL ++ b :: r.toL) w) := by
 by_cases h1 : r.ht + 1 < l.ht
 ·obtain ⟨lb, ll, lr, lg, rfl⟩ := tr_of_ht (t := l) (by omega)
  by_cases h2 : lr.ht ≤ ll.ht
  ·exact bal_A1 ll lr r lb b lg p w hl hr hb hn h1 h2
  ·obtain ⟨mb, ml, mr, mg, rfl⟩ := tr_of_ht (t := lr) (by omega)
   exact bal_A2 ll ml mr r lb mb b lg mg p w hl hr hb hn h1 h2
 ·by_cases h3 : l.ht + 1 < r.ht
  ·obtain ⟨rb, rl, rr, rg, rfl⟩ := tr_of_ht (t := r) (by omega)
   by_cases h2 : rl.ht ≤ rr.ht
   ·exact bal_B1 l rl rr rb b rg p w hl hr hb hn h3 h2
   ·obtain ⟨mb, ml, mr, mg, rfl⟩ := tr_of_ht (t := rl) (by omega)
    exact bal_B2 l ml mr rr rb mb b rg mg p w hl hr hb hn h3 h2
  ·exact bal_C l r b p w hl hr hb hn (by omega) (by omega)

def WithAt (w : World) (t : Tr) (b : Bd) : Prop := ∀ W, Below w.heap.size w W → Calls Try.prog 46 #[.pointer t.ptr, .pointer (at0 b.lk)] W fun e w' => ∃ t' : Tr, e = .returned (.pointer t'.ptr) ∧ TrAt w' t' ∧ t'.toL = insL t.toL b ∧ Below w.heap.size w w' ∧ Below W.heap.size W w'
set_option maxHeartbeats 4000000 in
theorem with_nil (b : Bd) (p : Option Addr) (w : World) (hb : LkC w b p) :
  Calls Try.prog 46 #[.pointer none, .pointer (at0 b.lk)] w (Made [b] w) := by
 have HJ : Hid (∀ W, Below w.heap.size w W → Calls Try.prog 62 #[.pointer none, .pointer (at0 b.lk), .pointer none] W (Made [b] w)) := Lib.hid fun W hW => by
  refine (join_at w .nil .nil b p hb (by simp [Tr.toL]) W hW trivial trivial).mono ?_
  rintro e w' ⟨g, h1, h2, h3, _⟩
  exact ⟨.node b .nil .nil g, h1, h2, rfl, h3⟩
 clear hb
 generalize at0 b.lk = bp at *
 go_enter Try.func46, Try.ntmps46
 go_wp2_with (go_at_call 62; refine (HJ.out _ (Below.refl _ _)).mono ?_; rintro e wq ⟨t, rfl, hm1, hm2, hm3⟩; have HM := Lib.hid hm1; have HM3 := Lib.hid hm3; clear hm1 hm3)
 go_ret
 exact ⟨t, rfl, HM.out, hm2, HM3.out⟩
set_option maxHeartbeats 8000000 in
theorem with_lt (x b : Bd) (l r : Tr) (g : Nat) (p : Option Addr) (w : World) (ht : TrAt w (.node x l r g)) (hb : LkC w b p) (hn : (l.toL ++ x :: r.toL).length + 1 ≤ 1000000) (hs : Srt (l.toL ++ x :: r.toL))
  (IS : WithAt w l b) (hlt : ordK b.k x.k < 0) :
  Calls Try.prog 46 #[.pointer (at0 g), .pointer (at0 b.lk)] w (Made (insL (l.toL ++ x :: r.toL) b) w) := by
 obtain ⟨px, hx⟩ := ht.2.1
 have hl := ht.2.2.1
 have hr := ht.2.2.2
 have hN := hn
 simp only [List.length_append, List.length_cons] at hN
 have kl := insL_len b l.toL
 have kr := insL_len b r.toL
 have HK : Hid (∀ W, Below w.heap.size w W → W.cell? ⟨b.lk, 0, none⟩ = some (.int .i64 b.bi.k.1) ∧ W.cell? ⟨b.lk, 1, none⟩ = some (.string b.bi.k.2) ∧ W.cell? ⟨x.lk, 0, none⟩ = some (.int .i64 x.bi.k.1) ∧ W.cell? ⟨x.lk, 1, none⟩ = some (.string x.bi.k.2) ∧ W.cell? ⟨g, 0, none⟩ = some (.pointer (some ⟨x.lk, 0, none⟩)) ∧ W.cell? ⟨g, 1, none⟩ = some (.pointer l.ptr) ∧ W.cell? ⟨g, 2, none⟩ = some (.pointer r.ptr)) := Lib.hid fun W hW => by
  have h1 := (ht.1.step hW).out
  have h2 := (hb.step hW).out
  have h3 := (hx.step hW).out
  exact ⟨h2.c0, h2.c1, h3.c0, h3.c1, h1.c0, h1.c1, h1.c2⟩
 have HO : Hid (∀ W, Below w.heap.size w W → Calls Try.prog 61 #[.agg #[.int .i64 b.bi.k.1, .string b.bi.k.2], .agg #[.int .i64 x.bi.k.1, .string x.bi.k.2]] W fun e w' => e = .returned (.int .i64 (ordK b.k x.k)) ∧ Below w.heap.size w w') := Lib.hid fun W hW => by
  refine (order_any b.k x.k W).mono ?_
  rintro e w' ⟨h1, h2⟩
  exact ⟨h1, hW.trans (h2.mono hW.size)⟩
 have hbd := ordK_bd b.k x.k
 have HBA : Hid (∀ W (t' : Tr), Below w.heap.size w W → TrAt W t' → t'.toL = insL l.toL b → Calls Try.prog 63 #[.pointer t'.ptr, .pointer (at0 x.lk), .pointer r.ptr] W fun e w' => ∃ t : Tr, e = .returned (.pointer t.ptr) ∧ TrAt w' t ∧ t.toL = insL (l.toL ++ x :: r.toL) b ∧ Below w.heap.size w w') := Lib.hid fun W t' hW ht' hL => by
  refine (balance_any t' r x px W ht' (hr.step hW) (hx.step hW) (by rw [hL]; simp only [List.length_append, List.length_cons]; omega)).mono ?_
  rintro e w' ⟨t, h1, h2, h3, h4⟩
  exact ⟨t, h1, h2, by rw [h3, hL, insL_left b x r.toL l.toL hs ((ordK_lt _ _).1 hlt)], hW.trans (h4.mono hW.size)⟩
 have HI : Hid (∀ W, Below w.heap.size w W → Calls Try.prog 46 #[.pointer l.ptr, .pointer (at0 b.lk)] W fun e w' => ∃ t' : Tr, e = .returned (.pointer t'.ptr) ∧ TrAt w' t' ∧ t'.toL = insL l.toL b ∧ Below w.heap.size w w' ∧ Below W.heap.size W w') := Lib.hid IS
 clear hN kl kr ht hb hx hl hr hs hn hbd IS
 generalize insL (l.toL ++ x :: r.toL) b = LL at *
 generalize ordK b.k x.k = O at *
 generalize l.ptr = lp at *
 generalize r.ptr = rp at *
 obtain ⟨b0, b1, x0, x1, c0, c1, c2⟩ := HK.out w (Below.refl _ _)
 simp only [at0] at HI HBA ⊢
 go_enter Try.func46, Try.ntmps46
 go_wp2_with fail
 go_region_held3 (fun W => W.cell? ⟨b.lk, 0, none⟩ = some (.int .i64 b.bi.k.1) ∧ W.cell? ⟨b.lk, 1, none⟩ = some (.string b.bi.k.2) ∧ W.cell? ⟨x.lk, 0, none⟩ = some (.int .i64 x.bi.k.1) ∧ W.cell? ⟨x.lk, 1, none⟩ = some (.string x.bi.k.2) ∧ W.cell? ⟨g, 0, none⟩ = some (.pointer (some ⟨x.lk, 0, none⟩)) ∧ W.cell? ⟨g, 1, none⟩ = some (.pointer lp) ∧ W.cell? ⟨g, 2, none⟩ = some (.pointer rp)) (first | exact HK.out _ (below_d w) | exact ⟨y0, y1, y2, y3, y4, y5, y6⟩ | go_keep)
  (first | (go_at_call 61; refine (HO.out _ (below_d w)).mono ?_; rintro e w1 ⟨rfl, hb1⟩; obtain ⟨y0, y1, y2, y3, y4, y5, y6⟩ := HK.out w1 hb1; have HB1 := Lib.hid hb1; clear hb1))
 all_goals
  clear b0 b1 x0 x1 c0 c1 c2
  go_wp2_with fail
  have HB1d := Lib.hid HB1.out.drew
  go_region_held3 (fun W => W.cell? ⟨b.lk, 0, none⟩ = some (.int .i64 b.bi.k.1) ∧ W.cell? ⟨b.lk, 1, none⟩ = some (.string b.bi.k.2) ∧ W.cell? ⟨x.lk, 0, none⟩ = some (.int .i64 x.bi.k.1) ∧ W.cell? ⟨x.lk, 1, none⟩ = some (.string x.bi.k.2) ∧ W.cell? ⟨g, 0, none⟩ = some (.pointer (some ⟨x.lk, 0, none⟩)) ∧ W.cell? ⟨g, 1, none⟩ = some (.pointer lp) ∧ W.cell? ⟨g, 2, none⟩ = some (.pointer rp)) (first | exact HK.out _ HB1d.out | exact ⟨z0, z1, z2, z3, z4, z5, z6⟩ | go_keep)
   (first
   | (go_at_call 63; refine (HBA.out _ t' HB2.out HT2.out HL2.out).mono ?_; rintro e w3 ⟨t, rfl, hm1, hm2, hm3⟩; have HM := Lib.hid hm1; have HM3 := Lib.hid hm3; obtain ⟨z0, z1, z2, z3, z4, z5, z6⟩ := HK.out w3 hm3; clear hm1 hm3)
   | (go_at_call 46; refine (HI.out _ HB1d.out).mono ?_; rintro e w2 ⟨t', rfl, ht2, hl2, hb2, _⟩; have HT2 := Lib.hid ht2; have HL2 := Lib.hid hl2; have HB2 := Lib.hid hb2; obtain ⟨z0, z1, z2, z3, z4, z5, z6⟩ := HK.out w2 hb2; clear ht2 hl2 hb2))
  all_goals
   go_wp2_with fail
   go_ret
   exact ⟨t, rfl, HM.out, hm2, HM3.out⟩
set_option maxHeartbeats 8000000 in
theorem with_gt (x b : Bd) (l r : Tr) (g : Nat) (p : Option Addr) (w : World) (ht : TrAt w (.node x l r g)) (hb : LkC w b p) (hn : (l.toL ++ x :: r.toL).length + 1 ≤ 1000000) (hs : Srt (l.toL ++ x :: r.toL))
  (IS : WithAt w r b) (hlt : 0 < ordK b.k x.k) :
  Calls Try.prog 46 #[.pointer (at0 g), .pointer (at0 b.lk)] w (Made (insL (l.toL ++ x :: r.toL) b) w) := by
 obtain ⟨px, hx⟩ := ht.2.1
 have hl := ht.2.2.1
 have hr := ht.2.2.2
 have hN := hn
 simp only [List.length_append, List.length_cons] at hN
 have kl := insL_len b l.toL
 have kr := insL_len b r.toL
 have HK : Hid (∀ W, Below w.heap.size w W → W.cell? ⟨b.lk, 0, none⟩ = some (.int .i64 b.bi.k.1) ∧ W.cell? ⟨b.lk, 1, none⟩ = some (.string b.bi.k.2) ∧ W.cell? ⟨x.lk, 0, none⟩ = some (.int .i64 x.bi.k.1) ∧ W.cell? ⟨x.lk, 1, none⟩ = some (.string x.bi.k.2) ∧ W.cell? ⟨g, 0, none⟩ = some (.pointer (some ⟨x.lk, 0, none⟩)) ∧ W.cell? ⟨g, 1, none⟩ = some (.pointer l.ptr) ∧ W.cell? ⟨g, 2, none⟩ = some (.pointer r.ptr)) := Lib.hid fun W hW => by
  have h1 := (ht.1.step hW).out
  have h2 := (hb.step hW).out
  have h3 := (hx.step hW).out
  exact ⟨h2.c0, h2.c1, h3.c0, h3.c1, h1.c0, h1.c1, h1.c2⟩
 have HO : Hid (∀ W, Below w.heap.size w W → Calls Try.prog 61 #[.agg #[.int .i64 b.bi.k.1, .string b.bi.k.2], .agg #[.int .i64 x.bi.k.1, .string x.bi.k.2]] W fun e w' => e = .returned (.int .i64 (ordK b.k x.k)) ∧ Below w.heap.size w w') := Lib.hid fun W hW => by
  refine (order_any b.k x.k W).mono ?_
  rintro e w' ⟨h1, h2⟩
  exact ⟨h1, hW.trans (h2.mono hW.size)⟩
 have hbd := ordK_bd b.k x.k
 have HBA : Hid (∀ W (t' : Tr), Below w.heap.size w W → TrAt W t' → t'.toL = insL r.toL b → Calls Try.prog 63 #[.pointer l.ptr, .pointer (at0 x.lk), .pointer t'.ptr] W fun e w' => ∃ t : Tr, e = .returned (.pointer t.ptr) ∧ TrAt w' t ∧ t.toL = insL (l.toL ++ x :: r.toL) b ∧ Below w.heap.size w w') := Lib.hid fun W t' hW ht' hL => by
  refine (balance_any l t' x px W (hl.step hW) ht' (hx.step hW) (by rw [hL]; simp only [List.length_append, List.length_cons]; omega)).mono ?_
  rintro e w' ⟨t, h1, h2, h3, h4⟩
  exact ⟨t, h1, h2, by rw [h3, hL, insL_right b x r.toL l.toL hs ((ordK_gt _ _).1 hlt)], hW.trans (h4.mono hW.size)⟩
 have HI : Hid (∀ W, Below w.heap.size w W → Calls Try.prog 46 #[.pointer r.ptr, .pointer (at0 b.lk)] W fun e w' => ∃ t' : Tr, e = .returned (.pointer t'.ptr) ∧ TrAt w' t' ∧ t'.toL = insL r.toL b ∧ Below w.heap.size w w' ∧ Below W.heap.size W w') := Lib.hid IS
 clear hN kl kr ht hb hx hl hr hs hn hbd IS
 generalize insL (l.toL ++ x :: r.toL) b = LL at *
 generalize ordK b.k x.k = O at *
 generalize l.ptr = lp at *
 generalize r.ptr = rp at *
 have hge : ¬ O < 0 := by omega
 obtain ⟨b0, b1, x0, x1, c0, c1, c2⟩ := HK.out w (Below.refl _ _)
 simp only [at0] at HI HBA ⊢
 go_enter Try.func46, Try.ntmps46
 go_wp2_with fail
 go_region_held3 (fun W => W.cell? ⟨b.lk, 0, none⟩ = some (.int .i64 b.bi.k.1) ∧ W.cell? ⟨b.lk, 1, none⟩ = some (.string b.bi.k.2) ∧ W.cell? ⟨x.lk, 0, none⟩ = some (.int .i64 x.bi.k.1) ∧ W.cell? ⟨x.lk, 1, none⟩ = some (.string x.bi.k.2) ∧ W.cell? ⟨g, 0, none⟩ = some (.pointer (some ⟨x.lk, 0, none⟩)) ∧ W.cell? ⟨g, 1, none⟩ = some (.pointer lp) ∧ W.cell? ⟨g, 2, none⟩ = some (.pointer rp)) (first | exact HK.out _ (below_d w) | exact ⟨y0, y1, y2, y3, y4, y5, y6⟩ | go_keep)
  (first | (go_at_call 61; refine (HO.out _ (below_d w)).mono ?_; rintro e w1 ⟨rfl, hb1⟩; obtain ⟨y0, y1, y2, y3, y4, y5, y6⟩ := HK.out w1 hb1; have HB1 := Lib.hid hb1; clear hb1))
 all_goals
  clear b0 b1 x0 x1 c0 c1 c2
  go_wp2_with fail
  have HB1d := Lib.hid HB1.out.drew
  go_region_held3 (fun W => W.cell? ⟨b.lk, 0, none⟩ = some (.int .i64 b.bi.k.1) ∧ W.cell? ⟨b.lk, 1, none⟩ = some (.string b.bi.k.2) ∧ W.cell? ⟨x.lk, 0, none⟩ = some (.int .i64 x.bi.k.1) ∧ W.cell? ⟨x.lk, 1, none⟩ = some (.string x.bi.k.2) ∧ W.cell? ⟨g, 0, none⟩ = some (.pointer (some ⟨x.lk, 0, none⟩)) ∧ W.cell? ⟨g, 1, none⟩ = some (.pointer lp) ∧ W.cell? ⟨g, 2, none⟩ = some (.pointer rp)) (first | exact HK.out _ HB1d.out | exact ⟨z0, z1, z2, z3, z4, z5, z6⟩ | go_keep)
   (first
   | (go_at_call 63; refine (HBA.out _ t' HB2.out HT2.out HL2.out).mono ?_; rintro e w3 ⟨t, rfl, hm1, hm2, hm3⟩; have HM := Lib.hid hm1; have HM3 := Lib.hid hm3; obtain ⟨z0, z1, z2, z3, z4, z5, z6⟩ := HK.out w3 hm3; clear hm1 hm3)
   | (go_at_call 46; refine (HI.out _ HB1d.out).mono ?_; rintro e w2 ⟨t', rfl, ht2, hl2, hb2, _⟩; have HT2 := Lib.hid ht2; have HL2 := Lib.hid hl2; have HB2 := Lib.hid hb2; obtain ⟨z0, z1, z2, z3, z4, z5, z6⟩ := HK.out w2 hb2; clear ht2 hl2 hb2))
  all_goals
   go_wp2_with fail
   go_ret
   exact ⟨t, rfl, HM.out, hm2, HM3.out⟩
set_option maxHeartbeats 8000000 in
theorem with_eq (x b : Bd) (l r : Tr) (g : Nat) (p : Option Addr) (w : World) (ht : TrAt w (.node x l r g)) (hb : LkC w b p) (hn : (l.toL ++ x :: r.toL).length + 1 ≤ 1000000) (hs : Srt (l.toL ++ x :: r.toL))
  (hlt : ordK b.k x.k = 0) :
  Calls Try.prog 46 #[.pointer (at0 g), .pointer (at0 b.lk)] w (Made (insL (l.toL ++ x :: r.toL) b) w) := by
 obtain ⟨px, hx⟩ := ht.2.1
 have hl := ht.2.2.1
 have hr := ht.2.2.2
 have hN := hn
 simp only [List.length_append, List.length_cons] at hN
 have kl := insL_len b l.toL
 have kr := insL_len b r.toL
 have HK : Hid (∀ W, Below w.heap.size w W → W.cell? ⟨b.lk, 0, none⟩ = some (.int .i64 b.bi.k.1) ∧ W.cell? ⟨b.lk, 1, none⟩ = some (.string b.bi.k.2) ∧ W.cell? ⟨x.lk, 0, none⟩ = some (.int .i64 x.bi.k.1) ∧ W.cell? ⟨x.lk, 1, none⟩ = some (.string x.bi.k.2) ∧ W.cell? ⟨g, 0, none⟩ = some (.pointer (some ⟨x.lk, 0, none⟩)) ∧ W.cell? ⟨g, 1, none⟩ = some (.pointer l.ptr) ∧ W.cell? ⟨g, 2, none⟩ = some (.pointer r.ptr)) := Lib.hid fun W hW => by
  have h1 := (ht.1.step hW).out
  have h2 := (hb.step hW).out
  have h3 := (hx.step hW).out
  exact ⟨h2.c0, h2.c1, h3.c0, h3.c1, h1.c0, h1.c1, h1.c2⟩
 have HO : Hid (∀ W, Below w.heap.size w W → Calls Try.prog 61 #[.agg #[.int .i64 b.bi.k.1, .string b.bi.k.2], .agg #[.int .i64 x.bi.k.1, .string x.bi.k.2]] W fun e w' => e = .returned (.int .i64 (ordK b.k x.k)) ∧ Below w.heap.size w w') := Lib.hid fun W hW => by
  refine (order_any b.k x.k W).mono ?_
  rintro e w' ⟨h1, h2⟩
  exact ⟨h1, hW.trans (h2.mono hW.size)⟩
 have hbd := ordK_bd b.k x.k
 have HJ : Hid (∀ W, Below w.heap.size w W → Calls Try.prog 62 #[.pointer l.ptr, .pointer (at0 b.lk), .pointer r.ptr] W fun e w' => ∃ t : Tr, e = .returned (.pointer t.ptr) ∧ TrAt w' t ∧ t.toL = insL (l.toL ++ x :: r.toL) b ∧ Below w.heap.size w w') := Lib.hid fun W hW => by
  refine (join_at w l r b p hb (by simp only [List.length_append, List.length_cons]; omega) W hW (hl.step hW) (hr.step hW)).mono ?_
  rintro e w' ⟨g', h1, h2, h3, _⟩
  exact ⟨.node b l r g', h1, h2, by rw [insL_same b x r.toL l.toL hs ((ordK_eq _ _).1 hlt)]; rfl, h3⟩
 clear hN kl kr ht hb hx hl hr hs hn hbd
 generalize insL (l.toL ++ x :: r.toL) b = LL at *
 generalize ordK b.k x.k = O at *
 generalize l.ptr = lp at *
 generalize r.ptr = rp at *
 subst hlt
 obtain ⟨b0, b1, x0, x1, c0, c1, c2⟩ := HK.out w (Below.refl _ _)
 simp only [at0] at HJ ⊢
 go_enter Try.func46, Try.ntmps46
 go_wp2_with fail
 go_region_held3 (fun W => W.cell? ⟨b.lk, 0, none⟩ = some (.int .i64 b.bi.k.1) ∧ W.cell? ⟨b.lk, 1, none⟩ = some (.string b.bi.k.2) ∧ W.cell? ⟨x.lk, 0, none⟩ = some (.int .i64 x.bi.k.1) ∧ W.cell? ⟨x.lk, 1, none⟩ = some (.string x.bi.k.2) ∧ W.cell? ⟨g, 0, none⟩ = some (.pointer (some ⟨x.lk, 0, none⟩)) ∧ W.cell? ⟨g, 1, none⟩ = some (.pointer lp) ∧ W.cell? ⟨g, 2, none⟩ = some (.pointer rp)) (first | exact HK.out _ (below_d w) | exact ⟨y0, y1, y2, y3, y4, y5, y6⟩ | go_keep)
  (first | (go_at_call 61; refine (HO.out _ (below_d w)).mono ?_; rintro e w1 ⟨rfl, hb1⟩; obtain ⟨y0, y1, y2, y3, y4, y5, y6⟩ := HK.out w1 hb1; have HB1 := Lib.hid hb1; clear hb1))
 all_goals
  clear b0 b1 x0 x1 c0 c1 c2
  go_wp2_with fail
  have HB1d := Lib.hid HB1.out.drew
  go_region_held3 (fun W => W.cell? ⟨b.lk, 0, none⟩ = some (.int .i64 b.bi.k.1) ∧ W.cell? ⟨b.lk, 1, none⟩ = some (.string b.bi.k.2) ∧ W.cell? ⟨x.lk, 0, none⟩ = some (.int .i64 x.bi.k.1) ∧ W.cell? ⟨x.lk, 1, none⟩ = some (.string x.bi.k.2) ∧ W.cell? ⟨g, 0, none⟩ = some (.pointer (some ⟨x.lk, 0, none⟩)) ∧ W.cell? ⟨g, 1, none⟩ = some (.pointer lp) ∧ W.cell? ⟨g, 2, none⟩ = some (.pointer rp)) (first | exact HK.out _ HB1d.out | exact ⟨z0, z1, z2, z3, z4, z5, z6⟩ | go_keep)
   (first | (go_at_call 62; refine (HJ.out _ HB1d.out).mono ?_; rintro e w3 ⟨t, rfl, hm1, hm2, hm3⟩; have HM := Lib.hid hm1; have HM3 := Lib.hid hm3; obtain ⟨z0, z1, z2, z3, z4, z5, z6⟩ := HK.out w3 hm3; clear hm1 hm3))
  all_goals
   go_wp2_with fail
   go_ret
   exact ⟨t, rfl, HM.out, hm2, HM3.out⟩

theorem with_any (b : Bd) (p : Option Addr) : ∀ (t : Tr) (w : World), TrAt w t → LkC w b p → t.toL.length + 1 ≤ 1000000 → Srt t.toL → Calls Try.prog 46 #[.pointer t.ptr, .pointer (at0 b.lk)] w (Made (insL t.toL b) w)
 | .nil, w, _, hb, _, _ => with_nil b p w hb
 | .node x l r g, w, ht, hb, hn, hs => by
  have hN := hn
  simp only [Tr.toL, List.length_append, List.length_cons] at hN
  have hs' : Srt (l.toL ++ x :: r.toL) := hs
  have h2 := List.pairwise_append.1 hs'
  have IL : WithAt w l b := fun W hW => by
   refine (with_any b p l W (ht.2.2.1.step hW) (hb.step hW) (by omega) h2.1).mono ?_
   rintro e w' ⟨t', h1, h3, h4, h5⟩
   exact ⟨t', h1, h3, h4, hW.trans (h5.mono hW.size), h5⟩
  have IR : WithAt w r b := fun W hW => by
   refine (with_any b p r W (ht.2.2.2.step hW) (hb.step hW) (by omega) (List.pairwise_cons.1 h2.2.1).2).mono ?_
   rintro e w' ⟨t', h1, h3, h4, h5⟩
   exact ⟨t', h1, h3, h4, hW.trans (h5.mono hW.size), h5⟩
  rcases Int.lt_trichotomy (ordK b.k x.k) 0 with h | h | h
  ·exact with_lt x b l r g p w ht hb hn hs IL h
  ·exact with_eq x b l r g p w ht hb hn hs h
  ·exact with_gt x b l r g p w ht hb hn hs IR h
end Go.Proofs.Ytagkpcnedccaiaa
