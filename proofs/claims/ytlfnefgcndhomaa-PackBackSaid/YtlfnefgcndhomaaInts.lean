/-
  pack.Ints: the list whose bytes these are.
-/
import Derived.Test.YtlfnefgcndhomaaListB
import Derived.Test.YtlfnefgcndhomaaGet
import Derived.Test.YtlfnefgcndhomaaFrom
import Derived.Test.YtlfnefgcndhomaaList
import Derived.OwnWalk
namespace Go.Proofs.Ytlfnefgcndhomaa
open Go.RowKit
set_option linter.unusedVariables false

def IntsPost (b : List UInt8) (w : World) (e : Ending) (w' : World) : Prop :=
  Below w.heap.size w w' ∧ ((intsOf b = none ∧ e = .returned (.tuple #[.slice none 0 0, .int .i64 9])) ∨ ∃ l v', intsOf b = some l ∧ e = .returned (.tuple #[v', .int .i64 0]) ∧ OwnI w' w.heap.size v' l)
theorem post_none {b : List UInt8} {w w' : World} (h : intsOf b = none) (hb : Below w.heap.size w w') : IntsPost b w (.returned (.tuple #[.slice none 0 0, .int .i64 9])) w' := ⟨hb, .inl ⟨h, rfl⟩⟩
theorem getE_bad {l : List UInt8} (h : dec 0 l = none) : (getE l != 0) = true := by
  unfold getE
  split
  · rfl
  · rw [h]; rfl

theorem ints_bad (p : Option Addr) (n c : Nat) (b : List UInt8) (w : World) (h : In mkB w p n c b) (hn : n ≤ 3000) (hd : dec 0 b = none) :
    Calls Try.prog 23 #[.slice p n c] w (IntsPost b w) := by
  obtain ⟨i0, hi0, hy0, hy1, hy2⟩ := info_parts info5
  have hG : ∀ w2, In mkB w2 p n c b → Calls Try.prog 17 #[.slice p n c] w2 fun e w' => e = .returned (.tuple #[.int .u64 0, .int .i64 0, .int .i64 (getE b)]) ∧ w2 = w' := fun w2 h2 => by
    refine (get_any p n c b w2 h2 (by omega)).mono ?_
    rintro e w' ⟨rfl, rfl⟩
    have hk : getV b = 0 ∧ getK b = 0 := by simp [getV, getK, hd]
    exact ⟨by rw [hk.1, hk.2]; rfl, rfl⟩
  obtain ⟨p', hsl, -⟩ := slice_from 32 5 i0 Try.underlying32 hi0 hy1 h 0 (by omega)
  have hsl0 : ∀ w, (Instr.slice 32 (.slice p n c) (some (.int .i64 0)) none none).run Try.prog w = .ok (.slice p' (n - 0) (c - 0)) w := hsl
  have hE := getE_bad hd
  have HF := Lib.hid (intsOf_bad hd)
  have HG := hG w h
  generalize getE b = e at *
  clear hsl hd h hG
  go_enter Try.func23, Try.ntmps23
  go_wp2_with fail
  refine HG.mono ?_
  rintro e w1 ⟨rfl, rfl⟩
  go_wp2_with fail
  go_ret2
  exact post_none HF.out (Below.refl _ _)

theorem get_contract (p : Option Addr) (n c : Nat) (b : List UInt8) (v j : Nat) (hd : dec 0 b = some (v, j)) (hn : n ≤ 3000) : ∀ w2, In mkB w2 p n c b → Calls Try.prog 17 #[.slice p n c] w2 fun e w' => e = .returned (.tuple #[.int .u64 (v : Nat), .int .i64 (j : Nat), .int .i64 0]) ∧ w2 = w' := fun w2 h2 => by
  refine (get_any p n c b w2 h2 (by omega)).mono ?_
  rintro e w' ⟨rfl, rfl⟩
  obtain ⟨h1, h2, h3⟩ := get_some hd
  exact ⟨by rw [h1, h2, h3], rfl⟩
theorem get_refused (p : Option Addr) (n c : Nat) (b : List UInt8) (hd : dec 0 b = none) (hn : n ≤ 3000) : ∀ w2, In mkB w2 p n c b → Calls Try.prog 17 #[.slice p n c] w2 fun e w' => e = .returned (.tuple #[.int .u64 0, .int .i64 0, .int .i64 (getE b)]) ∧ w2 = w' := fun w2 h2 => by
  refine (get_any p n c b w2 h2 (by omega)).mono ?_
  rintro e w' ⟨rfl, rfl⟩
  have hk : getV b = 0 ∧ getK b = 0 := by simp [getV, getK, hd]
  exact ⟨by rw [hk.1, hk.2]; rfl, rfl⟩

theorem ints_much (p : Option Addr) (n c : Nat) (b : List UInt8) (w : World) (h : In mkB w p n c b) (hn : n ≤ 3000) (v j : Nat) (hd : dec 0 b = some (v, j)) (hv : n - j < v) :
    Calls Try.prog 23 #[.slice p n c] w (IntsPost b w) := by
  obtain ⟨i0, hi0, hy0, hy1, hy2⟩ := info_parts info5
  obtain ⟨a1, a2, a3, a4, a5, a6⟩ := dec_some b 0 v j hd
  have hjn : j ≤ n := by rw [h.1]; exact a3
  have hv64 : v < 18446744073709551616 := by omega
  obtain ⟨p', hsl, hin'⟩ := slice_from 32 5 i0 Try.underlying32 hi0 hy1 h j hjn
  have HF := Lib.hid (intsOf_much hd (by have := h.1; simp; omega))
  have HG := get_contract p n c b v j hd hn w h
  clear hd h hin' a4 a5 a6 a1
  go_enter Try.func23, Try.ntmps23
  go_wp2_with fail
  refine HG.mono ?_
  rintro e w1 ⟨rfl, rfl⟩
  go_wp2_with fail
  go_ret2
  exact post_none HF.out (Below.refl _ _)

set_option maxRecDepth 10000 in
set_option maxHeartbeats 2000000 in
theorem ints_main (p : Option Addr) (n c : Nat) (b : List UInt8) (w : World) (h : In mkB w p n c b) (hn : n ≤ 3000) (v j : Nat) (hd : dec 0 b = some (v, j)) (hv : v ≤ n - j) :
    Calls Try.prog 23 #[.slice p n c] w (IntsPost b w) := by
  obtain ⟨i0, hi0, hy0, hy1, hy2⟩ := info_parts info5
  obtain ⟨i3, hi3, hz0, hz1, hz2⟩ := info_parts info3
  obtain ⟨a1, a2, a3, a4, a5, a6⟩ := dec_some b 0 v j hd
  have hbn := h.1
  have hjn : j ≤ n := by rw [hbn]; exact a3
  obtain ⟨p', hsl, hin'⟩ := slice_from 32 5 i0 Try.underlying32 hi0 hy1 h j hjn
  have HR := Lib.hid (Reading.start hd (by rw [List.length_drop, ← hbn]; exact hv))
  have HIN := Lib.hid hin'
  have HG := get_contract p n c b v j hd hn w h
  have hb8 : i3.bytes * v ≤ 281474976710656 := by rw [hz2]; omega
  have hdl : Hid ((b.drop j).length ≤ 3000) := Lib.hid (by rw [List.length_drop, ← hbn]; omega)
  have HBL : Hid (b.length = n) := Lib.hid hbn.symm
  clear hd h hin' a4 a5 a6 a1 a3 hbn
  go_enter Try.func23, Try.ntmps23
  go_wp2_with fail
  refine HG.mono ?_
  rintro e w1 ⟨rfl, rfl⟩
  go_wp2_with (refine wpList_make_own w rfl _ _ 41 rfl w.heap.size 3 i3 (.int .i64 0) 1 Try.underlying41 hi3 hz0 hz1 .i64 .u64 (v : Int) v rfl rfl rfl hb8 (by unfold maxLen; omega) (Nat.le_refl _) ?_)
  intro w2 hown2 hgrow2
  have HB2 := Lib.hid ((Below.refl w.heap.size w).grown hgrow2 (Nat.le_refl _) (fun k hk => by simp at hk))
  have HO2 : Hid (OwnI w2 w.heap.size (.slice (some ⟨w.heap.size, 0, none⟩) 0 v) []) := Lib.hid (own_i hown2 [] rfl rfl)
  clear hown2 hgrow2 HG hsl
  go_wp2_with fail
  go_loopw [7, 8, 33] (fun re out i wr => ∃ (k : Nat) (l : List Int) (r : List UInt8) (pr : Option Addr) (nr cr : Nat), i = .int .u64 k ∧ re = .slice pr nr cr ∧ In mkB w pr nr cr r ∧ Reading b v k l r ∧ OwnI wr w.heap.size out l ∧ Below w.heap.size w wr) (fun _ _ i _ => v - (intOf i).toNat)
  case atStart => exact ⟨0, [], _, p', _, _, rfl, rfl, HIN.out, HR.out, HO2.out, HB2.out⟩
  case round =>
    obtain ⟨k, l, r, pr, nr, cr, rfl, rfl, hin, hrd, hown, hbe⟩ := hrel
    have hkv := hrd.le
    have hnr := hin.1
    have hnr3 : nr ≤ 3000 := by have := hrd.rest; have := HBL.out; omega
    have hlk : Hid (l.length = k) := Lib.hid hrd.len
    have hz := hbe.size
    have HIN2 := Lib.hid hin
    have HIN3 := Lib.hid (hin.step hbe)
    have HRD := Lib.hid hrd
    have HO := Lib.hid hown
    have HB := Lib.hid hbe
    clear HIN HR HO2 HB2 hown hbe hrd
    by_cases hlt : k < v
    · cases hd : dec 0 r with
      | none =>
        have HF := Lib.hid (HRD.out.fail hlt hd)
        have HG := get_refused pr nr cr r hd hnr3 _ HIN3.out
        have hE := getE_bad hd
        generalize getE r = ee at *
        clear hd hin hnr
        go_wp2_with fail
        refine HG.mono ?_
        rintro e w4 ⟨rfl, rfl⟩
        go_wp2_with fail
        go_ret2
        exact post_none HF.out HB.out
      | some pp =>
        obtain ⟨x, y⟩ := pp
        obtain ⟨a1, a2, a3, a4, a5, a6⟩ := dec_some r 0 x y hd
        have hyn : y ≤ nr := by rw [hnr]; exact a3
        have hx64 : x < 18446744073709551616 := by omega
        have HNX := Lib.hid (HRD.out.next hlt hd)
        have HG := get_contract pr nr cr r x y hd hnr3 _ HIN3.out
        obtain ⟨p2, hsl2, hin2⟩ := slice_from 32 5 i0 Try.underlying32 hi0 hy1 hin y hyn
        have HIN4 := Lib.hid hin2
        clear hd hin hin2 a1 a3 a4 a5 a6 hnr
        go_wp2_with fail
        refine HG.mono ?_
        rintro e w4 ⟨rfl, rfl⟩
        go_wp2_with fail
        refine (zag_any x wr hx64).mono ?_
        rintro e w4 ⟨rfl, rfl⟩
        go_wp2_with (at_builtin; refine wpList_append_own _ rfl _ _ 41 rfl w.heap.size 3 i3 (.int .i64 0) 1 8 Try.underlying41 hi3 hz0 hz1 hz2 rfl (by omega) _ _ _ rfl (World.ownsRow.alloc HO.out _) ⟨_, 0, none⟩ 1 1 [Value.int .i64 (zagI x)] rfl rfl (one_new _ _ _) (one_cell _ _) (by have := hlk.out; unfold maxLen; omega) (by have := hlk.out; omega) (by simp; omega) ?_)
        intro v' w5 hown hgrow _
        have HW := Lib.hid (own_i hown (l ++ [zagI x]) (by simp) (by simp))
        have HBB := Lib.hid (below_rowI HB.out hz _ HO.out hgrow)
        clear hown hgrow
        go_wp2_with fail
        go_roundw
        case rel => exact ⟨k + 1, _, _, p2, _, _, by go_num, rfl, HIN4.out, HNX.out, HW.out, HBB.out⟩
        case measure => simp [intOf]; omega
    · obtain rfl : k = v := by omega
      have HD := Lib.hid HRD.out.done
      by_cases h0 : 0 < nr
      · have HF : Hid (intsOf b = none) := Lib.hid (by rw [HD.out, if_neg (by intro e; subst e; simp at hnr; omega)])
        clear hin hnr
        go_wp2_with fail
        go_ret2
        exact post_none HF.out HB.out
      · have hr0 : nr = 0 := by omega
        have HF : Hid (intsOf b = some l) := Lib.hid (by rw [HD.out, if_pos (List.length_eq_zero_iff.1 (by omega))])
        clear hin hnr h0
        subst hr0
        go_wp2_with fail
        go_ret2
        exact ⟨HB.out, .inr ⟨l, _, HF.out, rfl, HO.out⟩⟩

/-- pack.Ints. -/
theorem intsP_any (p : Option Addr) (n c : Nat) (b : List UInt8) (w : World) (h : In mkB w p n c b) (hn : n ≤ 3000) :
    Calls Try.prog 23 #[.slice p n c] w (IntsPost b w) := by
  cases hd : dec 0 b with
  | none => exact ints_bad p n c b w h hn hd
  | some q =>
    by_cases hv : q.1 ≤ n - q.2
    · exact ints_main p n c b w h hn q.1 q.2 hd hv
    · exact ints_much p n c b w h hn q.1 q.2 hd (by omega)
end Go.Proofs.Ytlfnefgcndhomaa
