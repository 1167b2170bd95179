/-
  The document's Fresh.
-/
import Derived.Test.YthknejgdchpaaaaDoorFresh
import Derived.Test.YthknejgdchpaaaaDoorDigits
namespace Go.Proofs.YthknejgdchpaaaaDoor
open Go.RowKit
set_option linter.unusedVariables false
set_option linter.unusedSimpArgs false

def letL (p : Int) : List ByteArray := bif isLow p then [⟨#[120]⟩, ⟨#[121]⟩, ⟨#[122]⟩] else [⟨#[88]⟩, ⟨#[89]⟩, ⟨#[90]⟩]
theorem letL_len (p : Int) : (letL p).length = 3 := by unfold letL; cases isLow p <;> rfl
theorem letL_at (p : Int) (h : (letT p).size = 3) (r : Nat) (hr : r < 3) : (letL p)[r]'(by rw [letL_len]; exact hr) = (letT p).extract r (r + 1) := by
  have hu : isLow p = true ∨ (isLow p = false ∧ isUp p = true) := by
    cases h1 : isLow p
    · cases h2 : isUp p
      · unfold letT at h; rw [h1, h2] at h; exact absurd h (by decide)
      · exact .inr ⟨rfl, rfl⟩
    · exact .inl rfl
  have hc : r = 0 ∨ r = 1 ∨ r = 2 := by omega
  rcases hu with e | ⟨e, e2⟩
  · simp only [letL, letT, e, cond_true]
    rcases hc with rfl | rfl | rfl <;> rfl
  · simp only [letL, letT, e, e2, cond_true, cond_false]
    rcases hc with rfl | rfl | rfl <;> rfl
/-- What a round of the document's Fresh makes of its letter. -/
theorem frT_zero (L : ByteArray) (j : Nat) (h : j < 3) : frT L j = L.extract (j % 3) (j % 3 + 1) := by
  unfold frT; rw [if_pos (by omega), app_nil]
theorem frT_more (L : ByteArray) (j : Nat) (h : 3 ≤ j) : frT L j = L.extract (j % 3) (j % 3 + 1) ++ ⟨(Lib.decDigits (j / 3)).toArray⟩ := by
  unfold frT; rw [if_neg (by omega)]

theorem at_new (w : World) (l : List ByteArray) (T : Nat) : At (w.alloc (.cells (l.map Value.string).toArray T)) w.heap.size 0 l := by
  intro i hi
  rw [World.cell?_alloc_new]
  simp [hi]
theorem at_new2 (w : World) (o : Obj) (l : List ByteArray) (T : Nat) : At ((w.alloc o).alloc (.cells (l.map Value.string).toArray T)) (w.heap.size + 1) 0 l := by
  have h := at_new (w.alloc o) l T
  rw [show (w.alloc o).heap.size = w.heap.size + 1 by simp] at h
  exact h

set_option maxRecDepth 100000 in
set_option maxHeartbeats 4000000 in
theorem refFresh_up (q : Int) (hq : isLow q = false ∧ 1 ≤ q ∧ q ≤ 6) (l : List ByteArray) (p : Option Addr) (n cap N : Nat) (w : World) (h : In w p n cap l) (hlim : n ≤ 200) (hL : (letT q).size = 3) (hF : First (letT q) l N) :
    Calls Tryd.prog 27 #[.int .i64 q, .slice p n cap] w fun e w' => e = .returned (.tuple #[.string (frT (letT q) N), .bool true]) ∧ Below w.heap.size w w' := by
  have HI := Lib.hid h
  have HF := Lib.hid hF
  have hNl : N ≤ n := by rw [h.1]; exact hF.le
  have HLA := Lib.hid (letL_at q hL)
  have HL := Lib.hid hL
  have hll : letL q = [⟨#[88]⟩, ⟨#[89]⟩, ⟨#[90]⟩] := by unfold letL; rw [hq.1]; rfl
  have HLL := Lib.hid hll
  obtain ⟨hq1, hq2, hq3⟩ := hq
  unfold isLow at hq1
  obtain ⟨ha, hb⟩ := Bool.or_eq_false_iff.1 hq1
  clear hL hll h hF hq1
  go_enter Tryd.func27, Tryd.ntmps27
  go_wp2
  go_loopw [7] (fun i wr => ∃ j : Nat, j ≤ N ∧ i = .int .i64 j ∧ Below w.heap.size w wr ∧ At wr w.heap.size 0 (letL q) ∧ w.heap.size < wr.heap.size) (fun i _ => N - (intOf i).toNat)
  case atStart => exact ⟨0, by omega, rfl, (Below.refl _ _).alloc (Nat.le_refl _) _, by rw [HLL.out]; exact at_new w [⟨#[88]⟩, ⟨#[89]⟩, ⟨#[90]⟩] 9, by simp⟩
  case round =>
    obtain ⟨j, hj, rfl, hb, hat, hg⟩ := hrel
    have HB := Lib.hid hb
    have h2 : ((j : Int) % 3) = ((j % 3 : Nat) : Int) := by omega
    have hr : j % 3 < 3 := by omega
    have hcell : wr.cell? ⟨w.heap.size, j % 3, none⟩ = some (.string ((letT q).extract (j % 3) (j % 3 + 1))) := by
      have := hat (j % 3) (by rw [letL_len]; exact hr)
      rw [Nat.zero_add, HLA.out _ hr] at this
      exact this
    have HAT := Lib.hid hat
    have hI := (HI.out).step HB.out
    have HX := in_any l (frT (letT q) j) p n cap wr hI (by omega)
    have hzb := hb.size
    clear hat hb
    by_cases hj3 : j < 3
    · have HE := frT_zero (letT q) j hj3
      rw [HE] at HX
      by_cases hjN : j < N
      · have hin : inB l ((letT q).extract (j % 3) (j % 3 + 1)) = true := by rw [← HE]; exact HF.out.not j hjN
        rw [hin] at HX
        clear hin HE
        generalize (letT q).extract (j % 3) (j % 3 + 1) = s at *
        generalize j % 3 = r at *
        go_wp2_with (first | (go_at_call 15; refine HX.mono ?_; rintro e w2 ⟨rfl, rfl⟩))
        go_roundw
        case rel => exact ⟨j + 1, by omega, by go_num, HB.out, HAT.out, hg⟩
        case measure => simp [intOf]; omega
      · have e : j = N := by omega
        subst e
        have hin : inB l ((letT q).extract (j % 3) (j % 3 + 1)) = false := by rw [← HE]; exact HF.out.free
        rw [hin] at HX
        have HE := Lib.hid HE
        clear hin
        generalize (letT q).extract (j % 3) (j % 3 + 1) = s at *
        generalize j % 3 = r at *
        go_wp2_with (first | (go_at_call 15; refine HX.mono ?_; rintro e w2 ⟨rfl, rfl⟩))
        go_ret2
        exact ⟨by rw [HE.out]; rfl, HB.out⟩
    · have HE := frT_more (letT q) j (by omega)
      have h3 : ((j : Int) / 3) = ((j / 3 : Nat) : Int) := by omega
      have hq : j / 3 < 100 := by omega
      have HD := fun w => digits_any (j / 3) w hq
      have hdl := dd_len (j / 3) hq
      have hadd := add_run ((letT q).extract (j % 3) (j % 3 + 1)) ⟨(Lib.decDigits (j / 3)).toArray⟩ (by simp; omega) (by simp [ByteArray.size]; omega)
      have HX := fun W (hW : Below wr.heap.size wr W) => in_any l (frT (letT q) j) p n cap W (hI.step hW) (by omega)
      have HZ : Hid (wr.heap.size = wr.heap.size) := Lib.hid rfl
      rw [← HE] at hadd
      by_cases hjN : j < N
      · have hin : inB l (frT (letT q) j) = true := HF.out.not j hjN
        rw [hin] at HX
        have HX := Lib.hid HX
        clear hin HE hdl hI
        generalize frT (letT q) j = s at *
        generalize (letT q).extract (j % 3) (j % 3 + 1) = u at *
        generalize j % 3 = r at *
        generalize j / 3 = k at *
        go_wp2_with fail
        refine (HD _).mono ?_
        rintro e w2 ⟨rfl, hb2⟩
        have HB2 := Lib.hid hb2
        clear hb2
        go_wp2_with fail
        refine (HX.out _ HB2.out).mono ?_
        rintro e w3 ⟨rfl, rfl⟩
        go_wp2_with fail
        go_roundw
        case rel => exact ⟨j + 1, by omega, by go_num, HB.out.trans (HB2.out.mono hzb), HAT.out.step hg HB2.out, Nat.lt_of_lt_of_le hg HB2.out.size⟩
        case measure => simp [intOf]; omega
      · have e : j = N := by omega
        subst e
        have hin : inB l (frT (letT q) j) = false := HF.out.free
        rw [hin] at HX
        have HX := Lib.hid HX
        clear hin HE hdl hI
        generalize hs : frT (letT q) j = s at HX hadd
        have HS := Lib.hid hs
        clear hs
        generalize (letT q).extract (j % 3) (j % 3 + 1) = u at *
        generalize j % 3 = r at *
        generalize j / 3 = k at *
        go_wp2_with fail
        refine (HD _).mono ?_
        rintro e w2 ⟨rfl, hb2⟩
        have HB2 := Lib.hid hb2
        clear hb2
        go_wp2_with fail
        refine (HX.out _ HB2.out).mono ?_
        rintro e w3 ⟨rfl, rfl⟩
        go_wp2_with fail
        go_ret2
        exact ⟨by rw [HS.out]; rfl, HB.out.trans (HB2.out.mono hzb)⟩

set_option maxRecDepth 100000 in
set_option maxHeartbeats 4000000 in
theorem refFresh_low (q : Int) (hq : q = 1 ∨ q = 3) (l : List ByteArray) (p : Option Addr) (n cap N : Nat) (w : World) (h : In w p n cap l) (hlim : n ≤ 200) (hL : (letT q).size = 3) (hF : First (letT q) l N) :
    Calls Tryd.prog 27 #[.int .i64 q, .slice p n cap] w fun e w' => e = .returned (.tuple #[.string (frT (letT q) N), .bool true]) ∧ Below w.heap.size w w' := by
  have HI := Lib.hid h
  have HF := Lib.hid hF
  have hNl : N ≤ n := by rw [h.1]; exact hF.le
  have HLA := Lib.hid (letL_at q hL)
  have HL := Lib.hid hL
  have hll : letL q = [⟨#[120]⟩, ⟨#[121]⟩, ⟨#[122]⟩] := by unfold letL; rcases hq with rfl | rfl <;> rfl
  have HLL := Lib.hid hll
  clear hL hll h hF
  have hq1 : 1 ≤ q := by omega
  have hq6 : q ≤ 6 := by omega
  cases ha : (q == 1)
  case' false =>
    have hb : (q == 3) = true := by
      rw [beq_iff_eq]
      have := beq_eq_false_iff_ne.1 ha
      omega
  all_goals
    clear hq
    go_enter Tryd.func27, Tryd.ntmps27
    go_wp2
    go_loopw [7] (fun i wr => ∃ j : Nat, j ≤ N ∧ i = .int .i64 j ∧ Below w.heap.size w wr ∧ At wr (w.heap.size + 1) 0 (letL q) ∧ (w.heap.size + 1) < wr.heap.size) (fun i _ => N - (intOf i).toNat)
    case atStart => exact ⟨0, by omega, rfl, ((Below.refl _ _).alloc (Nat.le_refl _) _).alloc (by simp) _, by rw [HLL.out]; exact (at_new2 w _ [⟨#[120]⟩, ⟨#[121]⟩, ⟨#[122]⟩] 9), by simp⟩
    case round =>
      obtain ⟨j, hj, rfl, hb, hat, hg⟩ := hrel
      have HB := Lib.hid hb
      have h2 : ((j : Int) % 3) = ((j % 3 : Nat) : Int) := by omega
      have hr : j % 3 < 3 := by omega
      have hcell : wr.cell? ⟨(w.heap.size + 1), j % 3, none⟩ = some (.string ((letT q).extract (j % 3) (j % 3 + 1))) := by
        have := hat (j % 3) (by rw [letL_len]; exact hr)
        rw [Nat.zero_add, HLA.out _ hr] at this
        exact this
      have HAT := Lib.hid hat
      have hI := (HI.out).step HB.out
      have HX := in_any l (frT (letT q) j) p n cap wr hI (by omega)
      have hzb := hb.size
      clear hat hb
      by_cases hj3 : j < 3
      · have HE := frT_zero (letT q) j hj3
        rw [HE] at HX
        by_cases hjN : j < N
        · have hin : inB l ((letT q).extract (j % 3) (j % 3 + 1)) = true := by rw [← HE]; exact HF.out.not j hjN
          rw [hin] at HX
          clear hin HE
          generalize (letT q).extract (j % 3) (j % 3 + 1) = s at *
          generalize j % 3 = r at *
          go_wp2_with (first | (go_at_call 15; refine HX.mono ?_; rintro e w2 ⟨rfl, rfl⟩))
          go_roundw
          case rel => exact ⟨j + 1, by omega, by go_num, HB.out, HAT.out, hg⟩
          case measure => simp [intOf]; omega
        · have e : j = N := by omega
          subst e
          have hin : inB l ((letT q).extract (j % 3) (j % 3 + 1)) = false := by rw [← HE]; exact HF.out.free
          rw [hin] at HX
          have HE := Lib.hid HE
          clear hin
          generalize (letT q).extract (j % 3) (j % 3 + 1) = s at *
          generalize j % 3 = r at *
          go_wp2_with (first | (go_at_call 15; refine HX.mono ?_; rintro e w2 ⟨rfl, rfl⟩))
          go_ret2
          exact ⟨by rw [HE.out]; rfl, HB.out⟩
      · have HE := frT_more (letT q) j (by omega)
        have h3 : ((j : Int) / 3) = ((j / 3 : Nat) : Int) := by omega
        have hq : j / 3 < 100 := by omega
        have HD := fun w => digits_any (j / 3) w hq
        have hdl := dd_len (j / 3) hq
        have hadd := add_run ((letT q).extract (j % 3) (j % 3 + 1)) ⟨(Lib.decDigits (j / 3)).toArray⟩ (by simp; omega) (by simp [ByteArray.size]; omega)
        have HX := fun W (hW : Below wr.heap.size wr W) => in_any l (frT (letT q) j) p n cap W (hI.step hW) (by omega)
        have HZ : Hid (wr.heap.size = wr.heap.size) := Lib.hid rfl
        rw [← HE] at hadd
        by_cases hjN : j < N
        · have hin : inB l (frT (letT q) j) = true := HF.out.not j hjN
          rw [hin] at HX
          have HX := Lib.hid HX
          clear hin HE hdl hI
          generalize frT (letT q) j = s at *
          generalize (letT q).extract (j % 3) (j % 3 + 1) = u at *
          generalize j % 3 = r at *
          generalize j / 3 = k at *
          go_wp2_with fail
          refine (HD _).mono ?_
          rintro e w2 ⟨rfl, hb2⟩
          have HB2 := Lib.hid hb2
          clear hb2
          go_wp2_with fail
          refine (HX.out _ HB2.out).mono ?_
          rintro e w3 ⟨rfl, rfl⟩
          go_wp2_with fail
          go_roundw
          case rel => exact ⟨j + 1, by omega, by go_num, HB.out.trans (HB2.out.mono hzb), HAT.out.step hg HB2.out, Nat.lt_of_lt_of_le hg HB2.out.size⟩
          case measure => simp [intOf]; omega
        · have e : j = N := by omega
          subst e
          have hin : inB l (frT (letT q) j) = false := HF.out.free
          rw [hin] at HX
          have HX := Lib.hid HX
          clear hin HE hdl hI
          generalize hs : frT (letT q) j = s at HX hadd
          have HS := Lib.hid hs
          clear hs
          generalize (letT q).extract (j % 3) (j % 3 + 1) = u at *
          generalize j % 3 = r at *
          generalize j / 3 = k at *
          go_wp2_with fail
          refine (HD _).mono ?_
          rintro e w2 ⟨rfl, hb2⟩
          have HB2 := Lib.hid hb2
          clear hb2
          go_wp2_with fail
          refine (HX.out _ HB2.out).mono ?_
          rintro e w3 ⟨rfl, rfl⟩
          go_wp2_with fail
          go_ret2
          exact ⟨by rw [HS.out]; rfl, HB.out.trans (HB2.out.mono hzb)⟩
theorem refFresh_none (q : Int) (p : Option Addr) (n cap : Nat) (w : World) (h : q < 1 ∨ 6 < q) :
    Calls Tryd.prog 27 #[.int .i64 q, .slice p n cap] w fun e w' => e = .returned (.tuple #[.string ⟨#[]⟩, .bool false]) ∧ w = w' := by
  rcases h with h | h
  · go_enter Tryd.func27, Tryd.ntmps27
    go_wp2
    go_ret2
    exact ⟨rfl, rfl⟩
  · have h2 : ¬ q < 1 := by omega
    go_enter Tryd.func27, Tryd.ntmps27
    go_wp2
    go_ret2
    exact ⟨rfl, rfl⟩
theorem refFresh_any (q : Int) (l : List ByteArray) (p : Option Addr) (n cap N : Nat) (w : World) (h : In w p n cap l) (hlim : n ≤ 200) (hL : (letT q).size = 3) (hF : First (letT q) l N) :
    Calls Tryd.prog 27 #[.int .i64 q, .slice p n cap] w fun e w' => e = .returned (.tuple #[.string (frT (letT q) N), .bool true]) ∧ Below w.heap.size w w' := by
  cases h1 : isLow q
  · cases h2 : isUp q
    · unfold letT at hL; rw [h1, h2] at hL; exact absurd hL (by decide)
    · exact refFresh_up q ⟨h1, by unfold isUp at h2; simp at h2; omega⟩ l p n cap N w h hlim hL hF
  · exact refFresh_low q (by unfold isLow at h1; simpa using h1) l p n cap N w h hlim hL hF
end Go.Proofs.YthknejgdchpaaaaDoor
