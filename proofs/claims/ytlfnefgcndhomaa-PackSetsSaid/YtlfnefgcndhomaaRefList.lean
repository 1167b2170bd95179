/-
  The document's list of a set's members, and whether a number is in a list.
-/
import Derived.Test.YtlfnefgcndhomaaSet
namespace Go.Proofs.Ytlfnefgcndhomaa
open Go.RowKit
set_option linter.unusedVariables false

set_option maxHeartbeats 400000 in
theorem isIn_some (l : List Int) (b off c n : Nat) (x : Int) (w : World) (hat : At mkI w b off l) (hb : b < w.heap.size) (hc : n ≤ c) (hn : l.length = n) (hm : n ≤ 9223372036854775806) :
    Calls Try.prog 28 #[.slice (some ⟨b, off, none⟩) n c, .int .i64 x] w fun e w' => e = .returned (.bool (decide (x ∈ l))) ∧ w = w' := by
  have H := Lib.hid hat
  have HN := Lib.hid hn
  clear hat hn
  go_enter Try.func28, Try.ntmps28
  go_wp2
  go_loop [5] (fun i => ∃ k : Nat, k ≤ n ∧ i = .int .i64 k ∧ ¬ x ∈ l.take k) (fun i => n - (intOf i).toNat)
  case atStart => exact ⟨0, by omega, rfl, by simp⟩
  case round =>
    obtain ⟨k, hk, rfl, hno⟩ := hrel
    have HNO := Lib.hid hno
    clear hno
    by_cases hlt : k < n
    · have hkl : Hid (k < l.length) := Lib.hid (by rw [HN.out]; exact hlt)
      have e0 : w.cell? ⟨b, off + k, none⟩ = some (.int .i64 (l[k]'(hkl.out))) := H.out k hkl.out
      have HY : Hid (l[k]'(hkl.out) = x → true = decide (x ∈ l)) := Lib.hid (fun e => (decide_eq_true (by rw [← e]; exact List.getElem_mem _)).symm)
      have HZ : Hid (l[k]'(hkl.out) ≠ x → ¬ x ∈ l.take (k + 1)) := Lib.hid (fun e => by
        rw [List.take_succ_eq_append_getElem hkl.out]
        simp only [List.mem_append, List.mem_singleton, not_or]
        exact ⟨HNO.out, fun h => e h.symm⟩)
      generalize l[k]'(hkl.out) = y at *
      by_cases hxy : y = x
      · have hb1 : (y == x) = true := by rw [beq_iff_eq]; exact hxy
        have HR := Lib.hid (HY.out hxy)
        clear hxy HY HZ
        go_wp2_with fail
        go_ret
        exact ⟨ret_bool HR.out, rfl⟩
      · have hb1 : (y == x) = false := by rw [beq_eq_false_iff_ne]; exact hxy
        have HR := Lib.hid (HZ.out hxy)
        clear hxy HY HZ
        go_wp2_with fail
        go_round
        case rel => exact ⟨k + 1, by omega, by go_num, HR.out⟩
        case measure => simp [intOf]; omega
    · have hd : Hid (false = decide (x ∈ l)) := Lib.hid (by
        have := HNO.out
        rw [List.take_of_length_le (by rw [HN.out]; omega)] at this
        exact (decide_eq_false this).symm)
      go_wp2_with fail
      go_ret
      exact ⟨ret_bool hd.out, rfl⟩
theorem isIn_none (p : Option Addr) (c : Nat) (x : Int) (w : World) :
    Calls Try.prog 28 #[.slice p 0 c, .int .i64 x] w fun e w' => e = .returned (.bool false) ∧ w = w' := by
  go_enter Try.func28, Try.ntmps28
  go_wp2
  refine wp_loop_rounds 1 ?_
  rw [rounds_succ]
  go_wp2
  go_ret
  exact ⟨rfl, rfl⟩
theorem isIn_any (p : Option Addr) (n c : Nat) (l : List Int) (x : Int) (w : World) (h : In mkI w p n c l) (hm : n ≤ 9223372036854775806) :
    Calls Try.prog 28 #[.slice p n c, .int .i64 x] w fun e w' => e = .returned (.bool (decide (x ∈ l))) ∧ w = w' := by
  obtain ⟨hn, h0 | ⟨b, off, rfl, hc, hb, hat⟩⟩ := h
  · have : l = [] := List.length_eq_zero_iff.1 (by omega)
    subst this h0
    refine (isIn_none p c x w).mono ?_
    rintro e w' ⟨rfl, rfl⟩
    exact ⟨ret_bool (by simp), rfl⟩
  · exact isIn_some l b off c n x w hat hb hc hn.symm hm

theorem half_next (x j : Nat) : x / 2 ^ (j + 1) = x / 2 ^ j / 2 := by rw [Nat.pow_succ, Nat.div_div_eq_div_mul]

/-- What a round of the document's List knows. -/
def RefRel (l : List Nat) (n : Nat) (w : World) (v i : Value) (wr : World) : Prop :=
  ∃ k : Nat, k ≤ 65536 ∧ k ≤ 64 * n ∧ i = .int .i64 (k : Int) ∧ OwnI wr w.heap.size v (listW l k) ∧ Below w.heap.size w wr

set_option maxRecDepth 10000 in
set_option maxHeartbeats 2000000 in
theorem refList_some (l : List Nat) (b off c n : Nat) (w : World) (hat : At mkW w b off l) (hb : b < w.heap.size) (hc : n ≤ c) (hl : n ≤ 2000) (hn : l.length = n) (hW : W64 l) :
    Calls Try.prog 27 #[.slice (some ⟨b, off, none⟩) n c] w fun e w' => ∃ v', e = .returned v' ∧ OwnI w' w.heap.size v' (allW l) ∧ Below w.heap.size w w' := by
  obtain ⟨i0, hi0, hy0, hy1, hy2⟩ := info_parts info3
  have H := Lib.hid hat
  have HN := Lib.hid hn
  have HWW := Lib.hid hW
  have HV : Hid (RefRel l n w (.slice none 0 0) (.int .i64 0) w) := Lib.hid ⟨0, by omega, by omega, rfl, World.ownsRow_nil _ _ _ _, Below.refl _ _⟩
  have HALL : Hid (∀ k, k ≤ 65536 → k ≤ 64 * n → (k < 65536 → n ≤ k / 64) → allW l = listW l k) := Lib.hid (fun k h1 h2 h3 => by
    unfold allW
    congr 1
    unfold saidN
    rw [hn]
    by_cases hk : k < 65536
    · have := h3 hk; omega
    · omega)
  clear hat hn hW
  go_enter Try.func27, Try.ntmps27
  go_wp2
  go_loopw [3, 4] (fun v i wr => RefRel l n w v i wr) (fun _ i _ => 65536 - (intOf i).toNat)
  case atStart => exact HV.out
  case round =>
    obtain ⟨k, hk, hkn, hi, hown, hbe⟩ := hrel
    have HO := Lib.hid hown
    have HB := Lib.hid hbe
    have hz := hbe.size
    clear HV
    obtain ⟨i, hik⟩ : ∃ i : Int, i = (k : Int) := ⟨_, rfl⟩
    rw [← hik] at hi
    subst hi
    have i0' : (0 : Int) ≤ i := by omega
    by_cases hlt : k < 65536 ∧ k / 64 < n
    · obtain ⟨hk1, hk2⟩ := hlt
      have hkl : Hid (k / 64 < l.length) := Lib.hid (by rw [HN.out]; exact hk2)
      have ki : (i / 64).toNat = k / 64 := by omega
      have e0 : wr.cell? ⟨b, off + (i / 64).toNat, none⟩ = some (.int .u64 (l[k / 64]'(hkl.out) : Nat)) := by rw [ki]; exact (hbe.cell (p := ⟨b, off + k / 64, none⟩) hb).trans (H.out (k / 64) hkl.out)
      have hx : l[k / 64]'(hkl.out) < 18446744073709551616 := HWW.out _ (List.getElem_mem _)
      have HX : Hid (memW l k = decide (l[k / 64]'(hkl.out) / 2 ^ (k % 64) % 2 = 1)) := Lib.hid (by
        unfold memW
        rw [List.getD_eq_getElem?_getD, List.getElem?_eq_getElem hkl.out, testBit_div]
        rfl)
      generalize l[k / 64]'(hkl.out) = x at *
      have hlen : Hid ((listW l k).length ≤ 65536) := Lib.hid (Nat.le_trans (listW_length l k) hk)
      have HSU := Lib.hid (listW_succ l k)
      have i1 : i < 65536 := by omega
      have i2 : i / 64 < (n : Int) := by omega
      have HK := Lib.hid (⟨hk1, hk2, hik⟩ : k < 65536 ∧ k / 64 < n ∧ i = (k : Int))
      have HKM : Hid (i % 64 = ((k % 64 : Nat) : Int)) := Lib.hid (by omega)
      clear hown hbe hk1 hk2 hik hk hkn ki
      obtain ⟨wo, rfl⟩ : ∃ wo : World, wo = wr := ⟨_, rfl⟩
      go_wp2_with fail
      go_loop [5, 6] (fun v g => ∃ j : Nat, (j : Int) ≤ i % 64 ∧ g = .int .i64 j ∧ v = .int .u64 (x / 2 ^ j : Nat)) (fun _ g => 64 - (intOf g).toNat)
      case atStart => exact ⟨0, by omega, rfl, by simp⟩
      case round =>
        obtain ⟨j, hj, rfl, rfl⟩ := hrel
        have hxj : x / 2 ^ j ≤ x := Nat.div_le_self _ _
        by_cases hjt : (j : Int) < i % 64
        · have HH := Lib.hid (half_next x j)
          generalize x / 2 ^ j = y at *
          go_wp2_with fail
          go_round
          case rel => exact ⟨j + 1, by omega, by go_num, by rw [HH.out]; go_num⟩
          case measure => simp [intOf]; omega
        · have hje : Hid (j = k % 64) := Lib.hid (by have := HKM.out; omega)
          have HX2 : Hid (memW l k = decide (x / 2 ^ j % 2 = 1)) := Lib.hid (by rw [hje.out]; exact HX.out)
          generalize x / 2 ^ j = y at *
          by_cases hbit : y % 2 = 1
          · have hbi : ((y : Int) % 2 == 1) = true := by rw [beq_iff_eq]; omega
            have HS : Hid (listW l (k + 1) = listW l k ++ [i]) := Lib.hid (by rw [HSU.out, HX2.out, hbit, HK.out.2.2]; rfl)
            clear hbit
            go_wp2_with (at_builtin; refine wpList_append_own _ rfl _ _ 41 rfl w.heap.size 3 i0 (.int .i64 0) 1 8 Try.underlying41 hi0 hy0 hy1 hy2 rfl (by omega) _ _ _ rfl (World.ownsRow.alloc HO.out _) ⟨_, 0, none⟩ 1 1 [Value.int .i64 i] rfl rfl (one_new _ _ _) (one_cell _ _) (by have := hlen.out; unfold maxLen; omega) (by have := hlen.out; omega) (by simp; omega) ?_)
            intro v' w1 hown hgrow _
            have HW := Lib.hid (own_i hown (listW l (k + 1)) (by rw [HS.out]; simp) (by rw [HS.out]; simp))
            have HBB := Lib.hid (below_rowI HB.out hz _ HO.out hgrow)
            clear hown hgrow
            go_wp2_with fail
            go_roundw
            case rel => exact ⟨k + 1, by have := HK.out; omega, by have := HK.out; omega, by have := HK.out; go_num, HW.out, HBB.out⟩
            case measure => simp [intOf]; omega
          · have hbi : ((y : Int) % 2 == 1) = false := by rw [beq_eq_false_iff_ne]; omega
            have HS : Hid (listW l (k + 1) = listW l k) := Lib.hid (by rw [HSU.out, HX2.out]; simp [hbit])
            clear hbit
            go_wp2_with fail
            go_roundw
            case rel => exact ⟨k + 1, by have := HK.out; omega, by have := HK.out; omega, by have := HK.out; go_num, by rw [HS.out]; exact HO.out, HB.out⟩
            case measure => simp [intOf]; omega
    · have hkk : Hid (allW l = listW l k) := Lib.hid (HALL.out k hk hkn (by omega))
      clear hown hbe
      by_cases hk1 : k < 65536
      · have hk2 : (n : Int) ≤ i / 64 := by omega
        have hi1 : i < 65536 := by omega
        clear hk1 hk hkn hlt hik
        go_wp2_with fail
        go_ret
        exact ⟨_, rfl, by rw [hkk.out]; exact HO.out, HB.out⟩
      · have hi1 : ¬ i < 65536 := by omega
        clear hk1 hk hkn hlt hik
        go_wp2_with fail
        go_ret
        exact ⟨_, rfl, by rw [hkk.out]; exact HO.out, HB.out⟩
theorem refList_none (p : Option Addr) (c : Nat) (w : World) :
    Calls Try.prog 27 #[.slice p 0 c] w fun e w' => ∃ v', e = .returned v' ∧ OwnI w' w.heap.size v' (allW []) ∧ Below w.heap.size w w' := by
  have HV : Hid (OwnI w w.heap.size (.slice none 0 0) (allW [])) := Lib.hid (World.ownsRow_nil _ _ _ _)
  go_enter Try.func27, Try.ntmps27
  go_wp2
  refine wp_loop_rounds 1 ?_
  rw [rounds_succ]
  go_wp2
  go_ret
  exact ⟨_, rfl, HV.out, Below.refl _ _⟩
theorem sRefList (p : Option Addr) (n c : Nat) (s : Nat → Bool) (w : World) (h1 : SetIs w p n c s) :
    Calls Try.prog 27 #[.slice p n c] w fun e w' => ∃ q' m' d', e = .returned (.slice q' m' d') ∧ LstIs w' q' m' d' s ∧ Below w.heap.size w w' := by
  obtain ⟨L, a1, a2, a3, a4⟩ := h1
  have main : Calls Try.prog 27 #[.slice p n c] w fun e w' => ∃ v', e = .returned v' ∧ OwnI w' w.heap.size v' (allW L) ∧ Below w.heap.size w w' := by
    obtain ⟨hn, h0 | ⟨b, off, rfl, hc, hb, hat⟩⟩ := a1
    · have : L = [] := List.length_eq_zero_iff.1 (by omega)
      subst this h0
      exact refList_none p c w
    · exact refList_some L b off c n w hat hb hc (by omega) hn.symm a2
  refine main.mono ?_
  rintro e w' ⟨v', rfl, hown, hb⟩
  rw [lst_of L s a4] at hown
  obtain ⟨q', d', rfl, hin⟩ := in_of_row hown rfl
  exact ⟨q', _, d', rfl, ⟨hin, lst_length s⟩, hb⟩
end Go.Proofs.Ytlfnefgcndhomaa
