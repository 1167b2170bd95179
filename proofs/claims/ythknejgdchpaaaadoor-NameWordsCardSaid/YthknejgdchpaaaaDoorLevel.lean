/-
  Level, and the document's.
-/
import Derived.Test.YthknejgdchpaaaaDoorKind
import Derived.Test.YthknejgdchpaaaaDoorRefKind
namespace Go.Proofs.YthknejgdchpaaaaDoor
open Go.RowKit
set_option linter.unusedVariables false
set_option linter.unusedSimpArgs false

def g7 (c : UInt8) : Bool := ((c.toNat : Int) == 42) || ((c.toNat : Int) == 47) || ((c.toNat : Int) == 37)
def g6 (c : UInt8) : Bool := ((c.toNat : Int) == 43) || ((c.toNat : Int) == 45)
def g5 (c : UInt8) : Bool := ((c.toNat : Int) == 94) || ((c.toNat : Int) == 64) || ((c.toNat : Int) == 58)
def g4 (c : UInt8) : Bool := ((c.toNat : Int) == 61) || ((c.toNat : Int) == 60) || ((c.toNat : Int) == 62) || ((c.toNat : Int) == 33)
def g3 (c : UInt8) : Bool := ((c.toNat : Int) == 38) || ((c.toNat : Int) == 124)
def lvN (c : UInt8) : Int := bif g7 c then 7 else bif g6 c then 6 else bif g5 c then 5 else bif g4 c then 4 else bif g3 c then 3 else 2
/-- To the right: that group of the five alone which is behind no other. -/
def lvR (c : UInt8) : Bool := bif g7 c then false else bif g6 c then false else bif g5 c then true else false
def fb (s : ByteArray) : UInt8 := s.data.toList.headD 0
theorem fb_eq (s : ByteArray) (h : 0 < s.size) : fb s = s[0] := by unfold fb; rw [data_cons s h]; rfl
def levN (s : ByteArray) : Int := bif kindN s == 9 then lvN (fb s) else 0
def levR (s : ByteArray) : Bool := bif kindN s == 9 then lvR (fb s) else false
theorem kind_pos (s : ByteArray) (h : kindN s = 9) : 0 < s.size := by
  by_cases h0 : s.size = 0
  · have he : s.toList = [] := by rw [Lib.toList_data, ← List.length_eq_zero_iff, data_len]; exact h0
    have hm : mkB s = false := by rw [mk_iff s, he]; rfl
    unfold kindN at h; rw [hm, beg_none s h0] at h; simp at h
  · omega
theorem ret_lev {a b : Int} {c d : Bool} (h : a = b) (k : c = d) : Ending.returned (.tuple #[.int .i64 a, .bool c]) = .returned (.tuple #[.int .i64 b, .bool d]) := by rw [h, k]

set_option maxHeartbeats 2000000 in
theorem level_any (s : ByteArray) (w : World) (hk : Kw w) (hs : s.size ≤ 9223372036854775807) : Calls Tryd.prog 9 #[.string s] w fun e w' => e = .returned (.tuple #[.int .i64 (levN s), .bool (levR s)]) ∧ w = w' := by
  have HK := kind_any s w hk hs
  cases hq : (kindN s == 9)
  case false =>
    have HN : Hid (levN s = 0 ∧ levR s = false) := Lib.hid (by unfold levN levR; rw [hq]; exact ⟨rfl, rfl⟩)
    clear hk
    generalize kindN s = x at *
    go_enter Tryd.func9, Tryd.ntmps9
    go_wp2_with (first | (go_at_call 12; refine HK.mono ?_; rintro e w1 ⟨rfl, rfl⟩))
    go_ret2
    exact ⟨ret_lev HN.out.1.symm HN.out.2.symm, rfl⟩
  have h9 : kindN s = 9 := by simpa using hq
  have hp := kind_pos s h9
  have HN : Hid (levN s = lvN s[0] ∧ levR s = lvR s[0]) := Lib.hid (by unfold levN levR; rw [hq, fb_eq s hp]; exact ⟨rfl, rfl⟩)
  rw [h9] at HK
  clear hq h9 hk
  have HG : Hid (∀ c : UInt8, g7 c = (((c.toNat : Int) == 42) || ((c.toNat : Int) == 47) || ((c.toNat : Int) == 37)) ∧ g6 c = (((c.toNat : Int) == 43) || ((c.toNat : Int) == 45)) ∧ g5 c = (((c.toNat : Int) == 94) || ((c.toNat : Int) == 64) || ((c.toNat : Int) == 58)) ∧ g4 c = (((c.toNat : Int) == 61) || ((c.toNat : Int) == 60) || ((c.toNat : Int) == 62) || ((c.toNat : Int) == 33)) ∧ g3 c = (((c.toNat : Int) == 38) || ((c.toNat : Int) == 124))) := Lib.hid (fun c => ⟨rfl, rfl, rfl, rfl, rfl⟩)
  cases e0 : ((s[0].toNat : Int) == 42)
  case true =>
    go_enter Tryd.func9, Tryd.ntmps9
    go_wp2_with (first | (go_at_call 12; refine HK.mono ?_; rintro e w1 ⟨rfl, rfl⟩))
    go_ret2
    exact ⟨ret_lev (by rw [HN.out.1]; unfold lvN; simp only [HG.out s[0], *]; rfl) (by rw [HN.out.2]; unfold lvR; simp only [HG.out s[0], *]; rfl), rfl⟩
  cases e1 : ((s[0].toNat : Int) == 47)
  case true =>
    go_enter Tryd.func9, Tryd.ntmps9
    go_wp2_with (first | (go_at_call 12; refine HK.mono ?_; rintro e w1 ⟨rfl, rfl⟩))
    go_ret2
    exact ⟨ret_lev (by rw [HN.out.1]; unfold lvN; simp only [HG.out s[0], *]; rfl) (by rw [HN.out.2]; unfold lvR; simp only [HG.out s[0], *]; rfl), rfl⟩
  cases e2 : ((s[0].toNat : Int) == 37)
  case true =>
    go_enter Tryd.func9, Tryd.ntmps9
    go_wp2_with (first | (go_at_call 12; refine HK.mono ?_; rintro e w1 ⟨rfl, rfl⟩))
    go_ret2
    exact ⟨ret_lev (by rw [HN.out.1]; unfold lvN; simp only [HG.out s[0], *]; rfl) (by rw [HN.out.2]; unfold lvR; simp only [HG.out s[0], *]; rfl), rfl⟩
  cases e3 : ((s[0].toNat : Int) == 43)
  case true =>
    go_enter Tryd.func9, Tryd.ntmps9
    go_wp2_with (first | (go_at_call 12; refine HK.mono ?_; rintro e w1 ⟨rfl, rfl⟩))
    go_ret2
    exact ⟨ret_lev (by rw [HN.out.1]; unfold lvN; simp only [HG.out s[0], *]; rfl) (by rw [HN.out.2]; unfold lvR; simp only [HG.out s[0], *]; rfl), rfl⟩
  cases e4 : ((s[0].toNat : Int) == 45)
  case true =>
    go_enter Tryd.func9, Tryd.ntmps9
    go_wp2_with (first | (go_at_call 12; refine HK.mono ?_; rintro e w1 ⟨rfl, rfl⟩))
    go_ret2
    exact ⟨ret_lev (by rw [HN.out.1]; unfold lvN; simp only [HG.out s[0], *]; rfl) (by rw [HN.out.2]; unfold lvR; simp only [HG.out s[0], *]; rfl), rfl⟩
  cases e5 : ((s[0].toNat : Int) == 94)
  case true =>
    go_enter Tryd.func9, Tryd.ntmps9
    go_wp2_with (first | (go_at_call 12; refine HK.mono ?_; rintro e w1 ⟨rfl, rfl⟩))
    go_ret2
    exact ⟨ret_lev (by rw [HN.out.1]; unfold lvN; simp only [HG.out s[0], *]; rfl) (by rw [HN.out.2]; unfold lvR; simp only [HG.out s[0], *]; rfl), rfl⟩
  cases e6 : ((s[0].toNat : Int) == 64)
  case true =>
    go_enter Tryd.func9, Tryd.ntmps9
    go_wp2_with (first | (go_at_call 12; refine HK.mono ?_; rintro e w1 ⟨rfl, rfl⟩))
    go_ret2
    exact ⟨ret_lev (by rw [HN.out.1]; unfold lvN; simp only [HG.out s[0], *]; rfl) (by rw [HN.out.2]; unfold lvR; simp only [HG.out s[0], *]; rfl), rfl⟩
  cases e7 : ((s[0].toNat : Int) == 58)
  case true =>
    go_enter Tryd.func9, Tryd.ntmps9
    go_wp2_with (first | (go_at_call 12; refine HK.mono ?_; rintro e w1 ⟨rfl, rfl⟩))
    go_ret2
    exact ⟨ret_lev (by rw [HN.out.1]; unfold lvN; simp only [HG.out s[0], *]; rfl) (by rw [HN.out.2]; unfold lvR; simp only [HG.out s[0], *]; rfl), rfl⟩
  cases e8 : ((s[0].toNat : Int) == 61)
  case true =>
    go_enter Tryd.func9, Tryd.ntmps9
    go_wp2_with (first | (go_at_call 12; refine HK.mono ?_; rintro e w1 ⟨rfl, rfl⟩))
    go_ret2
    exact ⟨ret_lev (by rw [HN.out.1]; unfold lvN; simp only [HG.out s[0], *]; rfl) (by rw [HN.out.2]; unfold lvR; simp only [HG.out s[0], *]; rfl), rfl⟩
  cases e9 : ((s[0].toNat : Int) == 60)
  case true =>
    go_enter Tryd.func9, Tryd.ntmps9
    go_wp2_with (first | (go_at_call 12; refine HK.mono ?_; rintro e w1 ⟨rfl, rfl⟩))
    go_ret2
    exact ⟨ret_lev (by rw [HN.out.1]; unfold lvN; simp only [HG.out s[0], *]; rfl) (by rw [HN.out.2]; unfold lvR; simp only [HG.out s[0], *]; rfl), rfl⟩
  cases e10 : ((s[0].toNat : Int) == 62)
  case true =>
    go_enter Tryd.func9, Tryd.ntmps9
    go_wp2_with (first | (go_at_call 12; refine HK.mono ?_; rintro e w1 ⟨rfl, rfl⟩))
    go_ret2
    exact ⟨ret_lev (by rw [HN.out.1]; unfold lvN; simp only [HG.out s[0], *]; rfl) (by rw [HN.out.2]; unfold lvR; simp only [HG.out s[0], *]; rfl), rfl⟩
  cases e11 : ((s[0].toNat : Int) == 33)
  case true =>
    go_enter Tryd.func9, Tryd.ntmps9
    go_wp2_with (first | (go_at_call 12; refine HK.mono ?_; rintro e w1 ⟨rfl, rfl⟩))
    go_ret2
    exact ⟨ret_lev (by rw [HN.out.1]; unfold lvN; simp only [HG.out s[0], *]; rfl) (by rw [HN.out.2]; unfold lvR; simp only [HG.out s[0], *]; rfl), rfl⟩
  cases e12 : ((s[0].toNat : Int) == 38)
  case true =>
    go_enter Tryd.func9, Tryd.ntmps9
    go_wp2_with (first | (go_at_call 12; refine HK.mono ?_; rintro e w1 ⟨rfl, rfl⟩))
    go_ret2
    exact ⟨ret_lev (by rw [HN.out.1]; unfold lvN; simp only [HG.out s[0], *]; rfl) (by rw [HN.out.2]; unfold lvR; simp only [HG.out s[0], *]; rfl), rfl⟩
  cases e13 : ((s[0].toNat : Int) == 124)
  case true =>
    go_enter Tryd.func9, Tryd.ntmps9
    go_wp2_with (first | (go_at_call 12; refine HK.mono ?_; rintro e w1 ⟨rfl, rfl⟩))
    go_ret2
    exact ⟨ret_lev (by rw [HN.out.1]; unfold lvN; simp only [HG.out s[0], *]; rfl) (by rw [HN.out.2]; unfold lvR; simp only [HG.out s[0], *]; rfl), rfl⟩
  go_enter Tryd.func9, Tryd.ntmps9
  go_wp2_with (first | (go_at_call 12; refine HK.mono ?_; rintro e w1 ⟨rfl, rfl⟩))
  go_ret2
  exact ⟨ret_lev (by rw [HN.out.1]; unfold lvN; simp only [HG.out s[0], *]; rfl) (by rw [HN.out.2]; unfold lvR; simp only [HG.out s[0], *]; rfl), rfl⟩
end Go.Proofs.YthknejgdchpaaaaDoor
