/-
  Numbers that lead on to lesser ones: least and join, walked.
-/
import Derived.Test.YtagkpcnedccaiaaFQ
namespace Go.Proofs.Ytagkpcnedccaiaa
open Go.RowKit
set_option maxRecDepth 20000
set_option linter.unusedVariables false
set_option linter.unusedSimpArgs false

/-- Where each number leads to in the end. -/
def Rt (n : Nat) (d r : Nat → Nat) : Prop := ∀ x, x < n → (d x = x ∧ r x = x) ∨ (d x < x ∧ r x = r (d x))
theorem Rt.le {n : Nat} {d r : Nat → Nat} (h : Rt n d r) {x : Nat} (hx : x < n) : d x ≤ x := by
 rcases h x hx with ⟨h1, _⟩ | ⟨h1, _⟩ <;> omega
theorem Rt.step {n : Nat} {d r : Nat → Nat} (h : Rt n d r) {x : Nat} (hx : x < n) : r (d x) = r x := by
 rcases h x hx with ⟨h1, h2⟩ | ⟨h1, h2⟩
 ·rw [h1]
 ·exact h2.symm
theorem Rt.half {n : Nat} {d r : Nat → Nat} (h : Rt n d r) {x : Nat} (hx : x < n) (hne : d x ≠ x) : Rt n (updF d x (d (d x))) r := fun y hy => by
 by_cases hyx : y = x
 ·subst hyx
  have h1 := h.le hx
  have h2 := h.le (x := d y) (by omega)
  have h3 := h.step hx
  have h4 := h.step (x := d y) (by omega)
  right
  simp only [updF, if_true]
  exact ⟨by omega, by rw [h4, h3]⟩
 ·simp only [updF, if_neg hyx]
  exact h y hy
theorem Rt.root {n : Nat} {d r : Nat → Nat} (h : Rt n d r) : ∀ x, x < n → r x ≤ x ∧ d (r x) = r x ∧ r (r x) = r x := by
 intro x
 induction x using Nat.strongRecOn with
 | ind x ih =>
  intro hx
  rcases h x hx with ⟨h1, h2⟩ | ⟨h1, h2⟩
  ·rw [h2]; exact ⟨Nat.le_refl _, h1, h2⟩
  ·rw [h2]
   obtain ⟨a, b, c⟩ := ih (d x) h1 (by omega)
   exact ⟨by omega, b, c⟩
/-- What leads straight to its end stays so. -/
def Flat (i : Nat) (d r : Nat → Nat) : Prop := ∀ j, j < i → d j = r j
theorem Flat.half {n i : Nat} {d r : Nat → Nat} (h : Rt n d r) (hf : Flat i d r) {x : Nat} (hx : x < n) : Flat i (updF d x (d (d x))) r := fun j hj => by
 by_cases hjx : j = x
 ·subst hjx
  simp only [updF, if_true]
  rw [hf j hj]
  exact (h.root j hx).2.1
 ·simp only [updF, if_neg hjx]; exact hf j hj
/-- A row of numbers that lead on. -/
def LeastPost (g c base n : Nat) (r : Nat → Nat) (d : Nat → Nat) (x : Nat) (w : World) (e : Ending) (w' : World) : Prop :=
 ∃ d', e = .returned (.int .i64 (r x : Nat)) ∧ OwnI w' base (.slice (some ⟨g, 0, none⟩) n c) (rowF n d') ∧ Rt n d' r ∧ (∀ i, Flat i d r → Flat i d' r) ∧ Wr g w w'

set_option maxHeartbeats 8000000 in
theorem least_any (g c base n : Nat) (r : Nat → Nat) (d : Nat → Nat) (x : Nat) (w : World) (ho : OwnI w base (.slice (some ⟨g, 0, none⟩) n c) (rowF n d)) (hr : Rt n d r) (hx : x < n) (hn : n ≤ 1000000) :
  Calls Try.prog 29 #[.slice (some ⟨g, 0, none⟩) n c, .int .i64 x] w (LeastPost g c base n r d x w) := by
 have HO := Lib.hid ho
 have HR := Lib.hid hr
 have HX := Lib.hid hx
 clear ho hr
 go_enter Try.func29, Try.ntmps29
 go_wp2_with fail
 go_loopw [1] (fun v wr => ∃ (y : Nat) (d' : Nat → Nat), v = .int .i64 y ∧ y < n ∧ Hid (r y = r x) ∧ Hid (OwnI wr base (.slice (some ⟨g, 0, none⟩) n c) (rowF n d')) ∧ Hid (Rt n d' r) ∧ Hid (∀ i, Flat i d r → Flat i d' r) ∧ Hid (Wr g w wr)) (fun v _ => (intOf v).toNat)
 case atStart => exact ⟨x, d, rfl, hx, Lib.hid rfl, HO, HR, Lib.hid (fun _ h => h), Lib.hid (Wr.refl _ _)⟩
 case round =>
  obtain ⟨y, d', rfl, hy, HRX, HO', HR', HF, HW⟩ := hrel
  clear HO HR
  have c0 : wr.cell? ⟨g, y, none⟩ = some (.int .i64 (d' y : Nat)) := HO'.out.cell y _ (rowF_get n d' y hy)
  have r1 : (0 : Int) ≤ (y : Int) := by omega
  have r2 : (y : Int) < (n : Int) := by omega
  have hle := HR'.out.le hy
  by_cases hd : d' y = y
  ·have HEND : Hid (r x = y) := Lib.hid (by
    rcases HR'.out y hy with ⟨_, h2⟩ | ⟨h1, _⟩
    ·rw [← HRX.out, h2]
    ·omega)
   rw [hd] at c0
   have hq : ((y : Int) != (y : Int)) = false := by simp
   clear hd hle
   go_wp2_with fail
   go_ret
   exact ⟨d', by rw [HEND.out]; rfl, HO'.out, HR'.out, HF.out, HW.out⟩
  ·have hq : (((d' y : Nat) : Int) != (y : Int)) = true := by simp; omega
   have hq2 : (((d' y : Nat) : Int) == (y : Int)) = false := by simp; omega
   have hz : d' y < n := by omega
   have hlt : d' y < y := by omega
   have c1 : wr.cell? ⟨g, d' y, none⟩ = some (.int .i64 (d' (d' y) : Nat)) := HO'.out.cell _ _ (rowF_get n d' _ hz)
   have hzz : d' (d' y) < y := by have := HR'.out.le hz; omega
   have fz := HO'.out.frozen
   have HR2 := Lib.hid (HR'.out.half hy (by omega))
   have HF2 : Hid (∀ i, Flat i d r → Flat i (updF d' y (d' (d' y))) r) := Lib.hid fun i hi => Flat.half HR'.out (HF.out i hi) hy
   have HRX2 : Hid (r (d' (d' y)) = r x) := Lib.hid (by rw [HR'.out.step hz, HR'.out.step hy]; exact HRX.out)
   have HO2 : Hid (OwnI (wr.setCell ⟨g, y, none⟩ (.int .i64 ((d' (d' y) : Nat) : Int))) base (.slice (some ⟨g, 0, none⟩) n c) (rowF n (updF d' y (d' (d' y))))) := Lib.hid (by rw [← rowF_set]; exact HO'.out.put y _)
   have HW2 := Lib.hid (HW.out.trans (Wr.set g y (.int .i64 ((d' (d' y) : Nat) : Int)) wr))
   have c2 : (wr.setCell ⟨g, y, none⟩ (.int .i64 ((d' (d' y) : Nat) : Int))).cell? ⟨g, y, none⟩ = some (.int .i64 ((d' (d' y) : Nat) : Int)) := HO2.out.cell y _ (by rw [rowF_get n _ y hy]; simp [updF])
   have r3 : (0 : Int) ≤ ((d' y : Nat) : Int) := by omega
   have r4 : ((d' y : Nat) : Int) < (n : Int) := by omega
   have hnn : d' (d' y) < n := by omega
   generalize d' (d' y) = z at *
   generalize d' y = u at *
   clear hd hle
   go_wp2_with fail
   go_roundw
   case rel => exact ⟨z, _, rfl, hnn, HRX2, HO2, HR2, HF2, HW2⟩
   case measure => simp [intOf]; omega

theorem rt_mrg {n : Nat} {d r : Nat → Nat} (h : Rt n d r) {a b : Nat} (ha : a < n) (hb : b < n) : Rt n (updF d (max (r a) (r b)) (min (r a) (r b))) (mrg r a b) := fun x hx => by
 obtain ⟨a1, a2, a3⟩ := h.root a ha
 obtain ⟨b1, b2, b3⟩ := h.root b hb
 by_cases hxm : x = max (r a) (r b)
 ·subst hxm
  simp only [updF, if_true]
  have hm : mrg r a b (max (r a) (r b)) = min (r a) (r b) := by
   unfold mrg
   rcases Nat.le_total (r a) (r b) with hab | hab
   ·rw [Nat.max_eq_right hab, if_pos (.inr b3)]
   ·rw [Nat.max_eq_left hab, if_pos (.inl a3)]
  have hm2 : mrg r a b (min (r a) (r b)) = min (r a) (r b) := by
   unfold mrg
   rcases Nat.le_total (r a) (r b) with hab | hab
   ·rw [Nat.min_eq_left hab, if_pos (.inl a3)]
   ·rw [Nat.min_eq_right hab, if_pos (.inr b3)]
  rw [hm, hm2]
  by_cases e : r a = r b
  ·left; constructor <;> omega
  ·right; constructor <;> omega
 ·simp only [updF, if_neg hxm]
  rcases h x hx with ⟨h1, h2⟩ | ⟨h1, h2⟩
  ·left
   refine ⟨h1, ?_⟩
   unfold mrg
   rw [h2]
   split
   ·rename_i hc; rcases hc with hc | hc <;> omega
   ·rfl
  ·right
   exact ⟨h1, mrg_eq h2 a b⟩
def JoinPost (g c base n : Nat) (r : Nat → Nat) (a b : Nat) (w : World) (e : Ending) (w' : World) : Prop :=
 ∃ d', e = .returned (.tuple #[]) ∧ OwnI w' base (.slice (some ⟨g, 0, none⟩) n c) (rowF n d') ∧ Rt n d' (mrg r a b) ∧ Wr g w w'
set_option maxHeartbeats 8000000 in
theorem join_any (g c base n : Nat) (r : Nat → Nat) (d : Nat → Nat) (a b : Nat) (w : World) (ho : OwnI w base (.slice (some ⟨g, 0, none⟩) n c) (rowF n d)) (hr : Rt n d r) (ha : a < n) (hb : b < n) (hn : n ≤ 1000000) :
  Calls Try.prog 28 #[.slice (some ⟨g, 0, none⟩) n c, .int .i64 a, .int .i64 b] w (JoinPost g c base n r a b w) := by
 have HA := Lib.hid ha
 have HB := Lib.hid hb
 have HR := Lib.hid hr
 obtain ⟨ra, hra⟩ : ∃ ra, r a = ra := ⟨_, rfl⟩
 obtain ⟨rb, hrb⟩ : ∃ rb, r b = rb := ⟨_, rfl⟩
 have hra1 : ra < n := by have := (hr.root a ha).1; omega
 have hrb1 : rb < n := by have := (hr.root b hb).1; omega
 have HC1 := Lib.hid (least_any g c base n r d a w ho hr ha hn)
 have HRA := Lib.hid hra
 have HRB := Lib.hid hrb
 have r1 : (0 : Int) ≤ (ra : Int) := by omega
 have r2 : (ra : Int) < (n : Int) := by omega
 have r3 : (0 : Int) ≤ (rb : Int) := by omega
 have r4 : (rb : Int) < (n : Int) := by omega
 rcases Nat.lt_trichotomy ra rb with hab | hab | hab
 ·have HFIN : Hid (∀ d2, Rt n d2 r → Rt n (updF d2 rb ra) (mrg r a b)) := Lib.hid fun d2 h2 => by
   have := rt_mrg h2 ha hb
   rw [hra, hrb, show max ra rb = rb by omega, show min ra rb = ra by omega] at this
   exact this
  clear ho hr ha hb hra hrb
  have hab2 : ¬ rb < ra := by omega
  go_enter Try.func28, Try.ntmps28
  go_wp2_with (first
   | (go_at_call 29; refine HC1.out.mono ?_; rintro e w1 ⟨d1, rfl, ho1, hr1, _, hw1⟩; rw [HRA.out]; have HO1 := Lib.hid ho1; have HR1 := Lib.hid hr1; have HW1 := Lib.hid hw1; clear ho1 hr1 hw1 HC1)
   | (go_at_call 29; have hx := HO1.out; clear hx; refine (least_any g c base n r _ b _ HO1.out HR1.out HB.out hn).mono ?_; rintro e w2 ⟨d2, rfl, ho2, hr2, _, hw2⟩; rw [HRB.out]; have HO2 := Lib.hid ho2; have HR2 := Lib.hid hr2; have HW2 := Lib.hid (HW1.out.trans hw2); have fz := ho2.frozen; have c0 : w2.cell? ⟨g, rb, none⟩ = some (.int .i64 (d2 rb : Nat)) := ho2.cell rb _ (rowF_get n d2 rb (by omega)); clear ho2 hr2 hw2))
  go_end0
  exact ⟨_, rfl, by rw [← rowF_set]; exact HO2.out.put rb (ra : Nat), HFIN.out _ HR2.out, HW2.out.trans (Wr.set g rb _ _)⟩
 ·subst hab
  have HFIN : Hid (∀ d2, Rt n d2 r → Rt n (updF d2 ra ra) (mrg r a b)) := Lib.hid fun d2 h2 => by
   have := rt_mrg h2 ha hb
   rw [hra, hrb, show max ra ra = ra by omega, show min ra ra = ra by omega] at this
   exact this
  clear ho hr ha hb hra hrb
  have hab : ¬ ra < ra := by omega
  go_enter Try.func28, Try.ntmps28
  go_wp2_with (first
   | (go_at_call 29; refine HC1.out.mono ?_; rintro e w1 ⟨d1, rfl, ho1, hr1, _, hw1⟩; rw [HRA.out]; have HO1 := Lib.hid ho1; have HR1 := Lib.hid hr1; have HW1 := Lib.hid hw1; clear ho1 hr1 hw1 HC1)
   | (go_at_call 29; have hx := HO1.out; clear hx; refine (least_any g c base n r _ b _ HO1.out HR1.out HB.out hn).mono ?_; rintro e w2 ⟨d2, rfl, ho2, hr2, _, hw2⟩; rw [HRB.out]; have HO2 := Lib.hid ho2; have HR2 := Lib.hid hr2; have HW2 := Lib.hid (HW1.out.trans hw2); have fz := ho2.frozen; have c0 : w2.cell? ⟨g, ra, none⟩ = some (.int .i64 (d2 ra : Nat)) := ho2.cell ra _ (rowF_get n d2 ra (by omega)); clear ho2 hr2 hw2))
  go_end0
  exact ⟨_, rfl, by rw [← rowF_set]; exact HO2.out.put ra (ra : Nat), HFIN.out _ HR2.out, HW2.out.trans (Wr.set g ra _ _)⟩
 ·have HFIN : Hid (∀ d2, Rt n d2 r → Rt n (updF d2 ra rb) (mrg r a b)) := Lib.hid fun d2 h2 => by
   have := rt_mrg h2 ha hb
   rw [hra, hrb, show max ra rb = ra by omega, show min ra rb = rb by omega] at this
   exact this
  clear ho hr ha hb hra hrb
  have hab2 : ¬ ra < rb := by omega
  go_enter Try.func28, Try.ntmps28
  go_wp2_with (first
   | (go_at_call 29; refine HC1.out.mono ?_; rintro e w1 ⟨d1, rfl, ho1, hr1, _, hw1⟩; rw [HRA.out]; have HO1 := Lib.hid ho1; have HR1 := Lib.hid hr1; have HW1 := Lib.hid hw1; clear ho1 hr1 hw1 HC1)
   | (go_at_call 29; have hx := HO1.out; clear hx; refine (least_any g c base n r _ b _ HO1.out HR1.out HB.out hn).mono ?_; rintro e w2 ⟨d2, rfl, ho2, hr2, _, hw2⟩; rw [HRB.out]; have HO2 := Lib.hid ho2; have HR2 := Lib.hid hr2; have HW2 := Lib.hid (HW1.out.trans hw2); have fz := ho2.frozen; have c0 : w2.cell? ⟨g, ra, none⟩ = some (.int .i64 (d2 ra : Nat)) := ho2.cell ra _ (rowF_get n d2 ra (by omega)); clear ho2 hr2 hw2))
  go_end0
  exact ⟨_, rfl, by rw [← rowF_set]; exact HO2.out.put ra (rb : Nat), HFIN.out _ HR2.out, HW2.out.trans (Wr.set g ra _ _)⟩
end Go.Proofs.Ytagkpcnedccaiaa
