/-
  A set's members as a list; whether two lists are the same.
-/
import Derived.Test.YtlfnefgcndhomaaAdd
import Derived.Lib.Zigzag
namespace Go.Proofs.Ytlfnefgcndhomaa
open Go.RowKit
set_option linter.unusedVariables false

/-- A slice of the call's own that reads as these ints. -/
def OwnI (w : World) (base : Nat) (v : Value) (l : List Int) : Prop := w.ownsRow base 3 1 v l.length (l.map mkI)
theorem own_i {w : World} {base : Nat} {v : Value} {n : Nat} {xs : List Value} (h : w.ownsRow base 3 1 v n xs) (l : List Int) (hn : n = l.length) (hx : xs = l.map mkI) : OwnI w base v l := by
  subst hn hx; exact h

theorem said_any (p : Option Addr) (n cap m : Nat) (w : World) (hn : n ≤ 2000) (hc : n ≤ cap) (hm : min n 1024 = m) :
    Calls Try.prog 41 #[.slice p n cap] w fun e w' => e = .returned (.slice p m cap) ∧ w = w' := by
  by_cases h : n ≤ 1024
  · obtain rfl : m = n := by omega
    clear hm
    go_enter Try.func41, Try.ntmps41
    go_wp2
    go_ret
    exact ⟨rfl, rfl⟩
  · obtain rfl : m = 1024 := by omega
    clear hm
    go_enter Try.func41, Try.ntmps41
    go_wp2
    go_ret
    exact ⟨rfl, rfl⟩

theorem below_rowI {base : Nat} {w wr w1 : World} {E n : Nat} {v : Value} {xs : List Value} (hb : Below base w wr) (hz : base ≤ wr.heap.size) (o : Obj) (ho : wr.ownsRow base E 1 v n xs) (hg : (wr.alloc o).grownBy w1 v.ownBlock) : Below base w w1 :=
  (hb.alloc hz o).grown hg (by simp; omega) (fun k hk => (ho.lt k hk).1)

theorem and_bit (x j : Nat) (hx : x < 18446744073709551616) : bits .and .u64 ((x : Int) / 2 ^ j) 1 = ((x / 2 ^ j % 2 : Nat) : Int) := by
  have h1 := Nat.div_le_self x (2 ^ j)
  have h2 : (x : Int) / 2 ^ j = ((x / 2 ^ j : Nat) : Int) := by rw [Int.natCast_ediv, Int.natCast_pow]; rfl
  rw [h2]
  generalize x / 2 ^ j = y at *
  rw [Lib.u64_and1 _ (by omega) (by omega)]
  omega

set_option maxRecDepth 10000 in
set_option maxHeartbeats 2000000 in
theorem list_some (l : List Nat) (b off c n : Nat) (w : World) (hat : At mkW w b off l) (hb : b < w.heap.size) (hc : n ≤ c) (hl : n ≤ 2000) (hn : l.length = n) (hW : W64 l) :
    Calls Try.prog 29 #[.slice (some ⟨b, off, none⟩) n c] w fun e w' => ∃ v', e = .returned v' ∧ OwnI w' w.heap.size v' (allW l) ∧ Below w.heap.size w w' := by
  obtain ⟨i0, hi0, hy0, hy1, hy2⟩ := info_parts info3
  obtain ⟨m, hm⟩ : ∃ m, min n 1024 = m := ⟨_, rfl⟩
  have hmn : m ≤ n := by omega
  have hm1 : m ≤ 1024 := by omega
  have HALL : Hid (allW l = listW l (64 * m)) := Lib.hid (by unfold allW saidN; rw [hn, hm])
  have HSAID := fun w => said_any (some ⟨b, off, none⟩) n c m w hl hc hm
  have H := Lib.hid hat
  have HN := Lib.hid hn
  have HWW := Lib.hid hW
  have HV : Hid (OwnI w w.heap.size (.slice none 0 0) (listW l (64 * 0))) := Lib.hid (World.ownsRow_nil _ _ _ _)
  clear hat hn hW hm
  go_enter Try.func29, Try.ntmps29
  go_wp2_with (go_at_call 41; refine (HSAID _).mono ?_; rintro e w' ⟨rfl, rfl⟩)
  clear HSAID
  go_loopw [3, 10] (fun v i wr => ∃ k : Nat, k ≤ m ∧ i = .int .i64 k ∧ OwnI wr w.heap.size v (listW l (64 * k)) ∧ Below w.heap.size w wr) (fun _ i _ => m - (intOf i).toNat)
  case atStart => exact ⟨0, by omega, rfl, HV.out, Below.refl _ _⟩
  case round =>
    obtain ⟨k, hk, rfl, hown, hbe⟩ := hrel
    have HO := Lib.hid hown
    have HB := Lib.hid hbe
    have hz := hbe.size
    clear HV
    by_cases hlt : k < m
    · have hkl : Hid (k < l.length) := Lib.hid (by rw [HN.out]; omega)
      have e0 : wr.cell? ⟨b, off + k, none⟩ = some (.int .u64 (l[k]'(hkl.out) : Nat)) := (hbe.cell (p := ⟨b, off + k, none⟩) hb).trans (H.out k hkl.out)
      have hx : l[k]'(hkl.out) < 18446744073709551616 := HWW.out _ (List.getElem_mem _)
      have HX : Hid (∀ j, j < 64 → memW l (64 * k + j) = decide (l[k]'(hkl.out) / 2 ^ j % 2 = 1)) := Lib.hid (fun j hj => by
        unfold memW
        rw [show (64 * k + j) / 64 = k by omega, show (64 * k + j) % 64 = j by omega, List.getD_eq_getElem?_getD, List.getElem?_eq_getElem hkl.out, testBit_div]
        rfl)
      generalize l[k]'(hkl.out) = x at *
      clear hown hbe
      obtain ⟨wo, rfl⟩ : ∃ wo : World, wo = wr := ⟨_, rfl⟩
      go_wp2_with fail
      go_loopw [3, 15] (fun v i wr => ∃ j : Nat, j ≤ 64 ∧ i = .int .i64 j ∧ OwnI wr w.heap.size v (listW l (64 * k + j)) ∧ Below w.heap.size w wr) (fun _ i _ => 64 - (intOf i).toNat)
      case atStart => exact ⟨0, by omega, rfl, HO.out, HB.out⟩
      case round =>
        obtain ⟨j, hj, rfl, hown, hbe⟩ := hrel
        have HO2 := Lib.hid hown
        have HB2 := Lib.hid hbe
        have hz2 := hbe.size
        clear HO HB hown hbe
        by_cases hjt : j < 64
        · have hmem := HX.out j hjt
          have hsucc := listW_succ l (64 * k + j)
          have hlen := listW_length l (64 * k + j)
          by_cases hbit : x / 2 ^ j % 2 = 1
          · have hand : bits .and .u64 ((x : Int) / 2 ^ j) 1 = 1 := by rw [and_bit x j hx, hbit]; rfl
            have HS : Hid (listW l (64 * k + (j + 1)) = listW l (64 * k + j) ++ [((64 * k + j : Nat) : Int)]) := Lib.hid (by rw [← Nat.add_assoc, hsucc, hmem, hbit]; rfl)
            clear hmem hsucc hbit
            go_wp2_with (at_builtin; refine wpList_append_own _ rfl _ _ 41 rfl w.heap.size 3 i0 (.int .i64 0) 1 8 Try.underlying41 hi0 hy0 hy1 hy2 rfl (by omega) _ _ _ rfl (World.ownsRow.alloc HO2.out _) ⟨_, 0, none⟩ 1 1 [Value.int .i64 _] rfl rfl (one_new _ _ _) (one_cell _ _) (by unfold maxLen; omega) (by omega) (by simp; omega) ?_)
            intro v' w1 hown hgrow _
            have HW := Lib.hid (own_i hown (listW l (64 * k + (j + 1))) (by rw [HS.out]; simp) (by rw [HS.out]; simp; omega))
            have HBB := Lib.hid (below_rowI HB2.out hz2 _ HO2.out hgrow)
            clear hown hgrow
            go_wp2_with fail
            go_roundw
            case rel => exact ⟨j + 1, by omega, by go_num, HW.out, HBB.out⟩
            case measure => simp [intOf]; omega
          · have hand : bits .and .u64 ((x : Int) / 2 ^ j) 1 = 0 := by rw [and_bit x j hx, show x / 2 ^ j % 2 = 0 by omega]; rfl
            have HS : Hid (listW l (64 * k + (j + 1)) = listW l (64 * k + j)) := Lib.hid (by rw [← Nat.add_assoc, hsucc, hmem]; simp [hbit])
            clear hmem hsucc hbit
            go_wp2_with fail
            go_roundw
            case rel => exact ⟨j + 1, by omega, by go_num, by rw [HS.out]; exact HO2.out, HB2.out⟩
            case measure => simp [intOf]; omega
        · have hj64 : Hid (64 * (k + 1) = 64 * k + j) := Lib.hid (by omega)
          go_wp2_with fail
          go_roundw
          case rel => exact ⟨k + 1, by omega, by go_num, by rw [hj64.out]; exact HO2.out, HB2.out⟩
          case measure => simp [intOf]; omega
    · have hkk : Hid (allW l = listW l (64 * k)) := Lib.hid (by rw [HALL.out, show k = m by omega])
      clear hown hbe
      go_wp2_with fail
      go_ret
      exact ⟨_, rfl, by rw [hkk.out]; exact HO.out, HB.out⟩
theorem list_none (p : Option Addr) (c : Nat) (w : World) :
    Calls Try.prog 29 #[.slice p 0 c] w fun e w' => ∃ v', e = .returned v' ∧ OwnI w' w.heap.size v' (allW []) ∧ Below w.heap.size w w' := by
  have HV : Hid (OwnI w w.heap.size (.slice none 0 0) (allW [])) := Lib.hid (World.ownsRow_nil _ _ _ _)
  go_enter Try.func29, Try.ntmps29
  go_wp2_with (go_at_call 41; refine (said_any p 0 c 0 _ (by omega) (by omega) (by omega)).mono ?_; rintro e w' ⟨rfl, rfl⟩)
  refine wp_loop_rounds 1 ?_
  rw [rounds_succ]
  go_wp2
  go_ret
  exact ⟨_, rfl, HV.out, Below.refl _ _⟩
/-- List: the members, rising. -/
theorem list_any (p : Option Addr) (n c : Nat) (l : List Nat) (w : World) (h : In mkW w p n c l) (hl : n ≤ 2000) (hW : W64 l) :
    Calls Try.prog 29 #[.slice p n c] w fun e w' => ∃ v', e = .returned v' ∧ OwnI w' w.heap.size v' (allW l) ∧ Below w.heap.size w w' := by
  obtain ⟨rfl, h0 | ⟨b, off, rfl, hc, hb, hat⟩⟩ := h
  · have : l = [] := List.length_eq_zero_iff.1 h0
    subst this
    exact list_none p c w
  · exact list_some l b off c l.length w hat hb hc hl rfl hW

/-- The other lists' test: two lists of ints are the same. -/
theorem ints_some (l m : List Int) (b off cap b' off' cap' n : Nat) (w : World) (hc : At mkI w b off l) (hb : b < w.heap.size) (hcap : n ≤ cap) (hc' : At mkI w b' off' m) (hb' : b' < w.heap.size) (hcap' : n ≤ cap') (hn : l.length = n) (hlm : m.length = n) (hm : n ≤ 9223372036854775806) :
    Calls Try.prog 24 #[.slice (some ⟨b, off, none⟩) n cap, .slice (some ⟨b', off', none⟩) n cap'] w fun e w' => e = .returned (.bool (decide (l = m))) ∧ Below w.heap.size w w' := by
  have H := Lib.hid hc
  have H' := Lib.hid hc'
  have HN := Lib.hid hn
  have HLM := Lib.hid hlm
  clear hc hc' hlm hn
  go_enter Try.func24, Try.ntmps24
  go_wp2
  go_loopw [13] (fun i wr => ∃ k : Nat, k ≤ n ∧ i = .int .i64 k ∧ Below w.heap.size w wr ∧ l.take k = m.take k) (fun i _ => n - (intOf i).toNat)
  case atStart => exact ⟨0, by omega, rfl, Below.refl _ _, by simp⟩
  case round =>
    obtain ⟨k, hk, rfl, rb, hd⟩ := hrel
    have HD := Lib.hid hd
    have rz := rb.size
    clear hd
    by_cases hlt : k < n
    · have h1 : k < l.length := by rw [HN.out]; exact hlt
      have h2 : k < m.length := by rw [HLM.out]; exact hlt
      have e0 := (rb.cell (p := ⟨b, off + k, none⟩) hb).trans (H.out k h1)
      have d0 := (rb.cell (p := ⟨b', off' + k, none⟩) hb').trans (H'.out k h2)
      have HX : Hid (l[k] = m[k] → l.take (k + 1) = m.take (k + 1)) := Lib.hid (fun e => by rw [List.take_succ_eq_append_getElem h1, List.take_succ_eq_append_getElem h2, HD.out, e])
      have HY : Hid (l[k] ≠ m[k] → decide (l = m) = false) := Lib.hid (fun e => by rw [decide_eq_false_iff_not]; intro e2; subst e2; exact e rfl)
      generalize l[k] = x at *
      generalize m[k] = y at *
      by_cases hxy : x = y
      · have hb1 : (x == y) = true := by rw [beq_iff_eq]; exact hxy
        have hb2 : (x != y) = false := by rw [bne, hb1]; rfl
        have HXX := Lib.hid (HX.out hxy)
        clear hxy HX HY
        go_wp2_with fail
        go_quiet (fail)
        go_wp2_with fail
        go_roundw
        case rel => exact ⟨k + 1, by omega, by go_num, below_drewN rb _, HXX.out⟩
        case measure => simp [intOf]; omega
      · have hb1 : (x == y) = false := by rw [beq_eq_false_iff_ne]; exact hxy
        have hb2 : (x != y) = true := by rw [bne, hb1]; rfl
        have HYY := Lib.hid (HY.out hxy)
        clear hxy HX HY
        go_wp2_with fail
        go_quiet (fail)
        go_wp2_with fail
        go_ret
        exact ⟨ret_bool HYY.out.symm, below_drewN rb _⟩
    · have hd : Hid (decide (l = m) = true) := Lib.hid (by
        rw [decide_eq_true_eq]
        have := HD.out
        rwa [List.take_of_length_le (by rw [HN.out]; omega), List.take_of_length_le (by rw [HLM.out]; omega)] at this)
      go_wp2_with fail
      go_ret
      exact ⟨ret_bool hd.out.symm, rb⟩
theorem ints_none (p q : Option Addr) (cap cap' : Nat) (w : World) :
    Calls Try.prog 24 #[.slice p 0 cap, .slice q 0 cap'] w fun e w' => e = .returned (.bool true) ∧ Below w.heap.size w w' := by
  go_enter Try.func24, Try.ntmps24
  go_wp2
  refine wp_loop_rounds 1 ?_
  rw [rounds_succ]
  go_wp2
  go_ret
  exact ⟨rfl, Below.refl _ _⟩
theorem ints_long (p q : Option Addr) (n n' cap cap' : Nat) (h : n ≠ n') (w : World) :
    Calls Try.prog 24 #[.slice p n cap, .slice q n' cap'] w fun e w' => e = .returned (.bool false) ∧ Below w.heap.size w w' := by
  go_enter Try.func24, Try.ntmps24
  go_wp2
  go_ret
  exact ⟨rfl, Below.refl _ _⟩
theorem ints_any (p q : Option Addr) (n n' cap cap' : Nat) (l m : List Int) (w : World) (h : In mkI w p n cap l) (h' : In mkI w q n' cap' m) (hm : n ≤ 9223372036854775806) :
    Calls Try.prog 24 #[.slice p n cap, .slice q n' cap'] w fun e w' => e = .returned (.bool (decide (l = m))) ∧ Below w.heap.size w w' := by
  obtain ⟨hn, hr⟩ := h
  obtain ⟨hn', hr'⟩ := h'
  by_cases hnn : n = n'
  · subst hnn
    by_cases h0 : n = 0
    · have hl : l = [] := List.length_eq_zero_iff.1 (by omega)
      have hm : m = [] := List.length_eq_zero_iff.1 (by omega)
      subst hl hm h0
      exact (ints_none p q cap cap' w).mono fun e w' ⟨he, hb⟩ => ⟨he, hb⟩
    · rcases hr with hr | ⟨b, off, rfl, hc, hb, hat⟩
      · omega
      · rcases hr' with hr' | ⟨b', off', rfl, hc', hb', hat'⟩
        · omega
        · exact ints_some l m b off cap b' off' cap' n w hat hb hc hat' hb' hc' hn.symm hn'.symm hm
  · have : decide (l = m) = false := by
      rw [decide_eq_false_iff_not]; intro e; subst e; omega
    rw [this]
    exact ints_long p q n n' cap cap' hnn w
end Go.Proofs.Ytlfnefgcndhomaa
