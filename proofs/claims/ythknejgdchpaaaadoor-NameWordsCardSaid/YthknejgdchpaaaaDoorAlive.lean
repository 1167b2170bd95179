/-
  The chapter's example.
-/
import Derived.Test.YthknejgdchpaaaaDoorFresh
namespace Go.Proofs.YthknejgdchpaaaaDoor
open Go.RowKit
set_option linter.unusedVariables false
set_option linter.unusedSimpArgs false

theorem inB_dec (l : List ByteArray) (s : ByteArray) : inB l s = l.any fun t => t.data.toList == s.data.toList := by
  unfold inB; congr 1; funext t; rw [Lib.toList_data, Lib.toList_data]
theorem ex_first : First (letT 1) [⟨#[120]⟩, ⟨#[121]⟩] 2 := by
  refine ⟨by decide, by rw [inB_dec]; decide, fun j hj => ?_⟩
  have : j = 0 ∨ j = 1 := by omega
  rcases this with rfl | rfl <;> rw [inB_dec] <;> decide
theorem ex_z : frT (letT 1) 2 = ⟨#[122]⟩ := by rfl
theorem ex_k1 : kindN ⟨#[120, 39]⟩ = 6 := by
  unfold kindN kwB mkB; rw [inB_dec, inB_dec, beg_eq _ (by decide)]; decide
theorem ex_k2 : kindN ⟨#[61, 62]⟩ = 11 := by
  unfold kindN kwB mkB; rw [inB_dec, inB_dec, beg_eq _ (by decide)]; decide
theorem ex_k3 : kindN ⟨#[61, 61]⟩ = 9 := by
  unfold kindN kwB mkB; rw [inB_dec, inB_dec, beg_eq _ (by decide)]; decide
theorem ex_k4 : kindN ⟨#[58, 58]⟩ = 9 := by
  unfold kindN kwB mkB; rw [inB_dec, inB_dec, beg_eq _ (by decide)]; decide
theorem ex_lev : levN ⟨#[58, 58]⟩ = 5 ∧ levR ⟨#[58, 58]⟩ = true := by
  unfold levN levR; rw [ex_k4]; decide
theorem ex_fresh (w : World) (n : Nat) (hn : n = w.heap.size) : Calls Tryd.prog 26 #[.int .i64 1, .slice (some ⟨n, 0, none⟩) 2 2] (w.alloc (.cells #[.string ⟨#[120]⟩, .string ⟨#[121]⟩] 9)) fun e w' => e = .returned (.tuple #[.string ⟨#[122]⟩, .bool true]) ∧ Below (w.heap.size + 1) (w.alloc (.cells #[.string ⟨#[120]⟩, .string ⟨#[121]⟩] 9)) w' := by
  subst hn
  have h := fresh_any 1 [⟨#[120]⟩, ⟨#[121]⟩] _ 2 2 2 _ (in_new w [⟨#[120]⟩, ⟨#[121]⟩] 9 2 rfl) (by omega) (by intro s hs; simp at hs; rcases hs with rfl | rfl <;> decide) (by decide) ex_first
  rw [ex_z] at h
  rw [show (w.alloc (.cells (List.map Value.string [⟨#[120]⟩, ⟨#[121]⟩]).toArray 9)).heap.size = w.heap.size + 1 by simp] at h
  exact h

set_option maxHeartbeats 2000000 in
theorem alive_any (w : World) (hk : Kw w) : Calls Tryd.prog 8 #[] w fun e w' => e = .returned (.bool true) ∧ Below w.heap.size w w' := by
  have H1 := level_any ⟨#[58, 58]⟩ w hk (by decide)
  rw [ex_lev.1, ex_lev.2] at H1
  have H2 := ex_fresh w w.heap.size rfl
  have H3 : ∀ W, Below w.heap.size w W → Calls Tryd.prog 12 #[.string ⟨#[120, 39]⟩] W fun e w' => e = .returned (.int .i64 6) ∧ W = w' := fun W hW => by
    have := kind_any ⟨#[120, 39]⟩ W (hk.step hW) (by decide)
    rw [ex_k1] at this; exact this
  have H4 : ∀ W, Below w.heap.size w W → Calls Tryd.prog 12 #[.string ⟨#[61, 62]⟩] W fun e w' => e = .returned (.int .i64 11) ∧ W = w' := fun W hW => by
    have := kind_any ⟨#[61, 62]⟩ W (hk.step hW) (by decide)
    rw [ex_k2] at this; exact this
  have H5 : ∀ W, Below w.heap.size w W → Calls Tryd.prog 12 #[.string ⟨#[61, 61]⟩] W fun e w' => e = .returned (.int .i64 9) ∧ W = w' := fun W hW => by
    have := kind_any ⟨#[61, 61]⟩ W (hk.step hW) (by decide)
    rw [ex_k3] at this; exact this
  clear hk
  go_enter Tryd.func8, Tryd.ntmps8
  go_wp2_with fail
  refine H1.mono ?_
  rintro e w1 ⟨rfl, rfl⟩
  go_wp2_with fail
  refine H2.mono ?_
  rintro e w2 ⟨rfl, hb⟩
  have hb0 : Below w.heap.size w w2 := ((Below.refl _ _).alloc (Nat.le_refl _) _).trans (hb.mono (by omega))
  have HB := Lib.hid hb0
  clear hb hb0
  go_wp2_with fail
  refine (H3 _ HB.out).mono ?_
  rintro e w3 ⟨rfl, rfl⟩
  go_wp2_with fail
  refine (H4 _ HB.out).mono ?_
  rintro e w4 ⟨rfl, rfl⟩
  go_wp2_with fail
  refine (H5 _ HB.out).mono ?_
  rintro e w5 ⟨rfl, rfl⟩
  go_wp2_with fail
  go_ret
  exact ⟨rfl, HB.out⟩
end Go.Proofs.YthknejgdchpaaaaDoor
