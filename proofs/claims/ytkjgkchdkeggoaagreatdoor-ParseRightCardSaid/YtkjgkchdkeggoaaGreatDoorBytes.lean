/-
  The bytes that pass asks of, and the two closures that remember.
-/
import Derived.Test.YtkjgkchdkeggoaaGreatDoorModel
import Derived.Lib.QuietBelow
import Derived.OneCell
namespace Go.Proofs.YtkjgkchdkeggoaaGreatDoor
open Go.RowKit
set_option linter.unusedVariables false
set_option linter.unusedSimpArgs false

theorem blank_any (c : UInt8) (w : World) : Calls Tryz.prog 100 #[.int .u8 (c.toNat : Int)] w fun e w' => e = .returned (.bool (blankB c)) ∧ w = w' := by
  have hc := c.toNat_lt
  have HB : Hid (blankB c = (((c.toNat : Int) == 32) || ((c.toNat : Int) == 9) || ((c.toNat : Int) == 10) || ((c.toNat : Int) == 13))) := Lib.hid rfl
  go_enter Tryz.func100, Tryz.ntmps100
  go_wp2
  all_goals
    go_ret
    exact ⟨ret_bool (by simp [HB.out, *]), rfl⟩
theorem digit_any (c : UInt8) (w : World) : Calls Tryz.prog 121 #[.int .u8 (c.toNat : Int)] w fun e w' => e = .returned (.bool (digB c)) ∧ w = w' := by
  have hc := c.toNat_lt
  by_cases h1 : 48 ≤ c.toNat
  · have h : Hid (digB c = decide ((c.toNat : Int) ≤ 57)) := Lib.hid (by unfold digB; rw [Bool.eq_iff_iff]; simp; omega)
    go_enter Tryz.func121, Tryz.ntmps121
    go_wp2
    go_ret
    exact ⟨ret_bool h.out.symm, rfl⟩
  · have h : Hid (digB c = false) := Lib.hid (by unfold digB; simp; omega)
    go_enter Tryz.func121, Tryz.ntmps121
    go_wp2
    go_ret
    exact ⟨ret_bool h.out.symm, rfl⟩
theorem line_any (c : UInt8) (w : World) : Calls Tryz.prog 118 #[.int .u8 (c.toNat : Int)] w fun e w' => e = .returned (.bool (lineB c)) ∧ w = w' := by
  have hc := c.toNat_lt
  have HB : Hid (lineB c = !((c.toNat : Int) == 10)) := Lib.hid rfl
  go_enter Tryz.func118, Tryz.ntmps118
  go_wp2
  all_goals
    go_ret
    exact ⟨ret_bool (by rw [HB.out]; simp [*, bne]), rfl⟩
theorem lsign_any (c : UInt8) (w : World) : Calls Tryz.prog 107 #[.int .u8 (c.toNat : Int)] w fun e w' => e = .returned (.bool (signB c)) ∧ w = w' := by
  have hc := c.toNat_lt
  have HS : Hid (signB c = decide (0 ≤ Lib.indexByte signL c)) := Lib.hid (Lib.contains_iff_indexByte signL c)
  have H1 : ∀ w, Calls Tryz.prog 123 #[.string ⟨#[33, 37, 38, 36, 35, 43, 45, 47, 58, 60, 61, 62, 63, 64, 92, 126, 96, 94, 124, 42]⟩, .int .u8 (c.toNat : Int)] w fun e w' => e = .returned (.int .i64 (Lib.indexByte signL c)) ∧ w' = w := fun w => by
    have h := Tryz.strings_IndexByte ⟨#[33, 37, 38, 36, 35, 43, 45, 47, 58, 60, 61, 62, 63, 64, 92, 126, 96, 94, 124, 42]⟩ (c.toNat : Int) w
    have hcc : ((c.toNat : Int)).toNat.toUInt8 = c := by simp
    rw [hcc] at h
    exact h
  generalize Lib.indexByte signL c = x at *
  go_enter Tryz.func107, Tryz.ntmps107
  go_wp2_with (go_at_call 123; refine (H1 _).mono ?_; rintro e w1 ⟨rfl, rfl⟩)
  go_ret
  exact ⟨ret_bool (by rw [HS.out]), rfl⟩
theorem lrest_any (c : UInt8) (w : World) : Calls Tryz.prog 105 #[.int .u8 (c.toNat : Int)] w fun e w' => e = .returned (.bool (restB c)) ∧ w = w' := by
  have hc := c.toNat_lt
  have H3 := fun w => digit_any c w
  have HR : Hid (restB c = (lowB c || capB c || digB c || ((c.toNat : Int) == 95) || ((c.toNat : Int) == 39))) := Lib.hid rfl
  have HL : Hid (lowB c = (decide (97 ≤ (c.toNat : Int)) && decide ((c.toNat : Int) ≤ 122))) := Lib.hid (by unfold lowB; rw [Bool.eq_iff_iff]; simp; omega)
  have HC : Hid (capB c = (decide (65 ≤ (c.toNat : Int)) && decide ((c.toNat : Int) ≤ 90))) := Lib.hid (by unfold capB; rw [Bool.eq_iff_iff]; simp; omega)
  cases h3 : digB c <;> simp only [h3] at H3 HR <;> clear h3
  all_goals
    go_enter Tryz.func105, Tryz.ntmps105
    go_wp2_with (go_at_call 121; refine (H3 _).mono ?_; rintro e w1 ⟨rfl, rfl⟩)
  all_goals
    go_ret
    refine ⟨ret_bool ?_, rfl⟩
    rw [HR.out, HL.out, HC.out, Bool.eq_iff_iff]
    simp [*]
    try omega

/-- quoted$1. -/
theorem q1_any (e : Bool) (c : UInt8) (B : Nat) (w : World) (h : w.heap[B]? = some (.cells #[.bool e] 4 (0, 0))) :
    Calls Tryz.prog 117 #[.int .u8 (c.toNat : Int), .pointer (some ⟨B, 0, none⟩)] w fun r w' => r = .returned (.bool (qF e c).2) ∧ w' = w.setCell ⟨B, 0, none⟩ (.bool (qF e c).1) := by
  have hc := c.toNat_lt
  have hC := cell_of_one h
  have hF := free_of_one h
  clear h
  cases e
  · have H1 : Hid (qF false c = (((c.toNat : Int) == 92), !((c.toNat : Int) == 34) && !((c.toNat : Int) == 10))) := Lib.hid rfl
    go_enter Tryz.func117, Tryz.ntmps117
    go_wp2
    all_goals
      go_ret
      rw [H1.out]
      exact ⟨ret_bool (by simp [*, bne]), by simp [*]⟩
  · have H1 : Hid (qF true c = (false, ((c.toNat : Int) == 34) || ((c.toNat : Int) == 92) || ((c.toNat : Int) == 110) || ((c.toNat : Int) == 116))) := Lib.hid rfl
    go_enter Tryz.func117, Tryz.ntmps117
    go_wp2
    all_goals
      go_ret
      rw [H1.out]
      exact ⟨ret_bool (by simp [*]), by simp [*]⟩
theorem two_one {w : World} {B : Nat} {x y u : Value} {s t : TypeId} (hd : w.heap[B]? = some (.cells #[x] s (0, 0))) (hg : w.heap[B + 1]? = some (.cells #[y] t (0, 0))) :
    (w.setCell ⟨B + 1, 0, none⟩ u).heap[B]? = some (.cells #[x] s (0, 0)) ∧ (w.setCell ⟨B + 1, 0, none⟩ u).heap[B + 1]? = some (.cells #[u] t (0, 0)) ∧ Below B w (w.setCell ⟨B + 1, 0, none⟩ u) :=
  ⟨(Below.heap_setCell _ _ _ _ (show B ≠ B + 1 by omega)).trans hd, one_setCell hg, (Below.refl _ _).setCell (show B ≤ B + 1 by omega) _⟩
theorem two_both {w : World} {B : Nat} {x y u v : Value} {s t : TypeId} (hd : w.heap[B]? = some (.cells #[x] s (0, 0))) (hg : w.heap[B + 1]? = some (.cells #[y] t (0, 0))) :
    ((w.setCell ⟨B, 0, none⟩ v).setCell ⟨B + 1, 0, none⟩ u).heap[B]? = some (.cells #[v] s (0, 0)) ∧ ((w.setCell ⟨B, 0, none⟩ v).setCell ⟨B + 1, 0, none⟩ u).heap[B + 1]? = some (.cells #[u] t (0, 0)) ∧ Below B w ((w.setCell ⟨B, 0, none⟩ v).setCell ⟨B + 1, 0, none⟩ u) := by
  have h := two_one (w := w.setCell ⟨B, 0, none⟩ v) (B := B) (u := u) (one_setCell hd) ((Below.heap_setCell _ _ _ _ (show B + 1 ≠ B by omega)).trans hg)
  exact ⟨h.1, h.2.1, ((Below.refl _ _).setCell (show B ≤ B by omega) _).trans h.2.2⟩
set_option maxHeartbeats 1000000 in
/-- note$1: what it captures: the byte ahead (B + 1), how deep (B). -/
theorem n1_any (d : Int) (g c : UInt8) (B : Nat) (w : World) (hd : w.heap[B]? = some (.cells #[.int .i64 d] 3 (0, 0))) (hg : w.heap[B + 1]? = some (.cells #[.int .u8 (g.toNat : Int)] 5 (0, 0)))
    (h0 : -1000000 ≤ d) (h1 : d ≤ 1000000) :
    Calls Tryz.prog 120 #[.int .u8 (c.toNat : Int), .pointer (some ⟨B + 1, 0, none⟩), .pointer (some ⟨B, 0, none⟩)] w fun r w' => r = .returned (.bool (nF (d, g) c).2) ∧
      w'.heap[B]? = some (.cells #[.int .i64 (nF (d, g) c).1.1] 3 (0, 0)) ∧ w'.heap[B + 1]? = some (.cells #[.int .u8 ((nF (d, g) c).1.2.toNat : Int)] 5 (0, 0)) ∧ Below B w w' := by
  have hc := c.toNat_lt
  have hgt := g.toNat_lt
  have hDC := cell_of_one hd
  have hDF := free_of_one hd
  have hGC := cell_of_one hg
  have hGF := free_of_one hg
  have HD := Lib.hid hd
  have HG := Lib.hid hg
  clear hd hg
  have HX : Hid (decide (1 < d) = decide (0 < d - 1)) := Lib.hid (decide_eq_decide.2 (by omega))
  have hne : (B : Nat) ≠ B + 1 := by omega
  cases e1 : ((g.toNat : Int) == 40) <;> cases e2 : ((c.toNat : Int) == 42) <;> cases e3 : ((g.toNat : Int) == 42) <;> cases e4 : ((c.toNat : Int) == 41)
  all_goals
    have HN : Hid (nF (d, g) c = bif ((g.toNat : Int) == 40) && ((c.toNat : Int) == 42) then ((d + 1, 0), true) else bif ((g.toNat : Int) == 42) && ((c.toNat : Int) == 41) then ((d - 1, 0), decide (0 < d - 1)) else ((d, c), true)) := Lib.hid rfl
    simp only [e1, e2, e3, e4, Bool.and_true, Bool.and_false, cond_true, cond_false] at HN
  all_goals
    go_enter Tryz.func120, Tryz.ntmps120
    go_wp2
    go_ret
    rw [HN.out]
    first
      | exact ⟨ret_bool rfl, two_one HD.out HG.out⟩
      | exact ⟨ret_bool rfl, two_both HD.out HG.out⟩
      | exact ⟨ret_bool HX.out, two_both HD.out HG.out⟩
end Go.Proofs.YtkjgkchdkeggoaaGreatDoor
