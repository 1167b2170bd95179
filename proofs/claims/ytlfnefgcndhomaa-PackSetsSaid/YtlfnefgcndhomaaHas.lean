/-
  Has, With, Without.
-/
import Derived.Test.YtlfnefgcndhomaaSet
import Derived.Test.YtlfnefgcndhomaaOnto
import Derived.Deep.RegionWith
namespace Go.Proofs.Ytlfnefgcndhomaa
open Go.RowKit
set_option linter.unusedVariables false

theorem bit_and (W i : Nat) : (W &&& 2 ^ i = 0) = (W.testBit i = false) := by
  rw [nat_bit, testBit_div]
  by_cases h : W / 2 ^ i % 2 = 1
  · simp [h]
  · have : W / 2 ^ i % 2 = 0 := by omega
    simp [this]
theorem sHas (p : Option Addr) (n c : Nat) (s : Nat → Bool) (x : Int) (w : World) (h1 : SetIs w p n c s) :
    Calls Try.prog 31 #[.slice p n c, .int .i64 x] w fun e w' => e = .returned (.bool (mayB x && s x.toNat)) ∧ w = w' := by
  obtain ⟨L, a1, a2, a3, a4⟩ := h1
  cases hm : mayB x with
  | false =>
    have HM := may_any x w
    rw [hm] at HM
    go_enter Try.func31, Try.ntmps31
    go_wp2_with fail
    refine HM.mono ?_
    rintro e w1 ⟨rfl, rfl⟩
    go_wp2_with fail
    go_ret
    exact ⟨rfl, rfl⟩
  | true =>
    have h2 : 0 ≤ x ∧ x ≤ 65535 := by simpa [mayB] using hm
    obtain ⟨k, rfl⟩ : ∃ k : Nat, x = (k : Int) := ⟨x.toNat, by omega⟩
    have HM := may_any (k : Int) w
    rw [hm] at HM
    have HW := word_any p n c L (k / 64) w a1 (by omega) (by omega)
    have hk : ((k / 64 : Nat) : Int) = (k : Int) / 64 := by omega
    rw [hk] at HW
    have HB := bit_any k w (by omega)
    have hmem := a4 k (by omega)
    unfold memW at hmem
    have hW := getD_W64 a2 (k / 64)
    have hb := bit_W64 k
    have hand := u64_and_nat (L.getD (k / 64) 0) (2 ^ (k % 64)) hW hb
    have hz := bit_and (L.getD (k / 64) 0) (k % 64)
    generalize L.getD (k / 64) 0 = y at *
    generalize hbb : 2 ^ (k % 64) = b at *
    have HR : Hid (((((y &&& b : Nat) : Int)) != 0) = (true && s ((k : Int)).toNat)) := Lib.hid (by
      rw [Int.toNat_natCast, ← hmem, Bool.true_and]
      cases ht : y.testBit (k % 64) with
      | true =>
        have : ¬ y &&& b = 0 := by rw [hz, ht]; simp
        rw [bne_iff_ne]; omega
      | false =>
        have : y &&& b = 0 := by rw [hz, ht]
        rw [this]; rfl)
    have hk64 : IntKind.i64.wrap ((k : Int) / 64) = (k : Int) / 64 := by rw [IntKind.wrap_i64]; omega
    clear hm h2 a1 a2 a4 hmem hW hz hbb hk
    generalize hv : (y &&& b) = v at *
    clear hv
    have HD : Hid (∀ q : Bool, ((v : Int) != 0) = q → q = (true && s ((k : Int)).toNat)) := Lib.hid (fun q h => by rw [← h]; exact HR.out)
    obtain ⟨q, hq⟩ : ∃ q, ((v : Int) != 0) = q := ⟨_, rfl⟩
    have HQ := Lib.hid (HD.out q hq)
    have hq2 : ((v : Int) == 0) = !q := by rw [← hq, bne, Bool.not_not]
    clear HD HR
    go_enter Try.func31, Try.ntmps31
    go_wp2_with fail
    refine HM.mono ?_
    rintro e w1 ⟨rfl, rfl⟩
    go_wp2_with fail
    refine HW.mono ?_
    rintro e w1 ⟨rfl, rfl⟩
    go_wp2_with fail
    refine HB.mono ?_
    rintro e w1 ⟨rfl, rfl⟩
    go_wp2_with fail
    go_ret
    exact ⟨ret_bool HQ.out, rfl⟩

theorem copied_any (p : Option Addr) (n c : Nat) (l : List Nat) (w : World) (h : In mkW w p n c l) (hn : n ≤ 2000) :
    Calls Try.prog 48 #[.slice p n c] w fun e w' => ∃ v', e = .returned v' ∧ OwnW w' w.heap.size v' l ∧ Below w.heap.size w w' := by
  obtain ⟨i0, hi0, hy0, hy1, hy2⟩ := info_parts info23
  have H := Lib.hid h
  have HN := Lib.hid h.1
  clear h
  go_enter Try.func48, Try.ntmps48
  go_wp2_with (at_builtin; refine wpList_append_in w rfl _ _ 55 rfl w.heap.size 23 i0 (.int .u64 0) 8 Try.underlying55 hi0 hy0 hy1 hy2 rfl (.slice none 0 0) 0 [] rfl (World.ownsRow_nil _ _ _ _) mkW oneW p n c l rfl H.out (by unfold maxLen; omega) (by omega) (Nat.le_refl _) ?_)
  intro v1 w1 hown hgrow
  have HB := Lib.hid ((Below.refl w.heap.size w).grown hgrow (Nat.le_refl _) (fun k hk => by simp [Value.ownBlock] at hk))
  have HO : Hid (OwnW w1 w.heap.size v1 l) := Lib.hid (own_w hown l (by rw [HN.out]) (by simp))
  clear hown hgrow
  go_wp2_with fail
  go_ret
  exact ⟨v1, rfl, HO.out, HB.out⟩

theorem sWith (p : Option Addr) (n c : Nat) (s : Nat → Bool) (x : Int) (w : World) (h1 : SetIs w p n c s) :
    Calls Try.prog 37 #[.slice p n c, .int .i64 x] w fun e w' => ∃ q' m' d', e = .returned (.slice q' m' d') ∧ SetIs w' q' m' d' (fun v => s v || (mayB x && decide ((v : Int) = x))) ∧ Below w.heap.size w w' := by
  obtain ⟨L, a1, a2, a3, a4⟩ := h1
  have main : Calls Try.prog 37 #[.slice p n c, .int .i64 x] w fun e w' => ∃ v', e = .returned v' ∧ OwnW w' w.heap.size v' (addW L x) ∧ Below w.heap.size w w' := by
    have HC := copied_any p n c L w a1 (by omega)
    have HL : Hid (L.length ≤ 100000) := Lib.hid (by rw [← a1.1]; omega)
    have HW := Lib.hid a2
    clear a1 a2 a4
    go_enter Try.func37, Try.ntmps37
    go_wp2_with fail
    refine HC.mono ?_
    rintro e w1 ⟨v1, rfl, hown, hb1⟩
    have hz1 := hb1.size
    have HA := added_any x v1 L w1 w.heap.size hown HL.out HW.out hz1
    clear hown
    go_wp2_with fail
    refine HA.mono ?_
    rintro e w2 ⟨v2, rfl, hown2, hb2⟩
    have HO2 := Lib.hid hown2
    clear hown2
    go_wp2_with fail
    go_ret
    exact ⟨v2, rfl, HO2.out, hb1.trans hb2⟩
  refine main.mono ?_
  rintro e w' ⟨v', rfl, hown, hb⟩
  obtain ⟨q', d', rfl, hin⟩ := in_of_row hown rfl
  exact ⟨q', _, d', rfl, ⟨addW L x, hin, addW_W64 a2 x, by have := addW_length L x; have := a1.1; omega, fun v hv => by rw [memW_addW, a4 v hv]⟩, hb⟩

/-- A number taken out. -/
def outW (l : List Nat) (n : Nat) : List Nat := l.set (n / 64) (l.getD (n / 64) 0 &&& (18446744073709551615 - 2 ^ (n % 64)))
theorem memW_outW (l : List Nat) (n m : Nat) (h : n / 64 < l.length) : memW (outW l n) m = (memW l m && decide (m ≠ n)) := by
  unfold memW outW
  rw [set_getD _ _ _ _ h]
  have hb := bit_W64 n
  by_cases hnm : n / 64 = m / 64
  · rw [if_pos hnm, hnm, Nat.testBit_and]
    congr 1
    rw [show 18446744073709551615 - 2 ^ (n % 64) = 2 ^ 64 - (2 ^ (n % 64) + 1) by omega, Nat.testBit_two_pow_sub_succ (by omega), Nat.testBit_two_pow]
    have : m % 64 < 64 := by omega
    simp only [this, decide_true, Bool.true_and]
    rw [← decide_not, decide_eq_decide]
    omega
  · rw [if_neg hnm]
    have : m ≠ n := fun e => hnm (by rw [e])
    simp [this]
theorem has_lt {l : List Nat} {n : Nat} (h : memW l n = true) : n / 64 < l.length := by
  rcases Nat.lt_or_ge (n / 64) l.length with h1 | h1
  · exact h1
  · unfold memW at h
    rw [List.getD_eq_getElem?_getD, List.getElem?_eq_none h1] at h
    simp at h
theorem outW_W64 {l : List Nat} (h : W64 l) (n : Nat) : W64 (outW l n) := by
  intro x hx
  rcases List.mem_or_eq_of_mem_set hx with hx | rfl
  · exact h x hx
  · exact Nat.lt_of_le_of_lt Nat.and_le_left (getD_W64 h _)
theorem outW_length (l : List Nat) (n : Nat) : (outW l n).length = l.length := by simp [outW]

theorem without_no (p : Option Addr) (n c : Nat) (L : List Nat) (x : Int) (w : World) (a1 : In mkW w p n c L) (hn : n ≤ 2000)
    (HH : ∀ w2, Below w.heap.size w w2 → Calls Try.prog 31 #[.slice p n c, .int .i64 x] w2 fun e w' => e = .returned (.bool false) ∧ w2 = w') :
    Calls Try.prog 33 #[.slice p n c, .int .i64 x] w fun e w' => ∃ v', e = .returned v' ∧ OwnW w' w.heap.size v' L ∧ Below w.heap.size w w' := by
  have HC := copied_any p n c L w a1 hn
  clear a1
  go_enter Try.func33, Try.ntmps33
  go_wp2_with fail
  refine HC.mono ?_
  rintro e w1 ⟨v1, rfl, hown, hb1⟩
  have HO := Lib.hid hown
  clear hown
  go_wp2_with fail
  refine (HH w1 hb1).mono ?_
  rintro e w2 ⟨rfl, rfl⟩
  go_wp2_with fail
  go_ret
  exact ⟨v1, rfl, HO.out, hb1⟩

set_option maxHeartbeats 1000000 in
theorem without_yes (p : Option Addr) (n c : Nat) (L : List Nat) (k : Nat) (w : World) (a1 : In mkW w p n c L) (hn : n ≤ 2000) (hk : k ≤ 65535) (hm : memW L k = true) (hW : W64 L)
    (HH : ∀ w2, Below w.heap.size w w2 → Calls Try.prog 31 #[.slice p n c, .int .i64 k] w2 fun e w' => e = .returned (.bool true) ∧ w2 = w') :
    Calls Try.prog 33 #[.slice p n c, .int .i64 k] w fun e w' => ∃ v', e = .returned v' ∧ OwnW w' w.heap.size v' (outW L k) ∧ Below w.heap.size w w' := by
  have HC := copied_any p n c L w a1 hn
  have hlt := has_lt hm
  have hx := getD_W64 hW (k / 64)
  have hb := bit_W64 k
  have hand := u64_andNot_nat (L.getD (k / 64) 0) (2 ^ (k % 64)) hx hb
  have HB := fun w => bit_any k w hk
  have hlen : Hid (L.length ≤ 2000) := Lib.hid (by rw [← a1.1]; exact hn)
  have hout : outW L k = L.set (k / 64) (L.getD (k / 64) 0 &&& (18446744073709551615 - 2 ^ (k % 64))) := rfl
  have k1 : IntKind.i64.wrap ((k : Int) / 64) = ((k / 64 : Nat) : Int) := by rw [IntKind.wrap_i64]; omega
  generalize hbb : 2 ^ (k % 64) = b at *
  have HOUT := Lib.hid hout
  have HCELL := Lib.hid (fun (w1 : World) (g c1 : Nat) (h : OwnW w1 w.heap.size (.slice (some ⟨g, 0, none⟩) L.length c1) L) => OwnW.cell h rfl (k / 64) hlt)
  have HSET := Lib.hid (fun (w1 : World) (g c1 : Nat) (h : OwnW w1 w.heap.size (.slice (some ⟨g, 0, none⟩) L.length c1) L) => OwnW.set h rfl (k / 64) (L.getD (k / 64) 0 &&& (18446744073709551615 - b)))
  generalize L.getD (k / 64) 0 = x at *
  generalize x &&& (18446744073709551615 - b) = y at *
  clear a1 hm hW hout hbb
  generalize k / 64 = i at *
  go_enter Try.func33, Try.ntmps33
  go_wp2_with fail
  refine HC.mono ?_
  rintro e w1 ⟨v1, rfl, hown, hb1⟩
  obtain ⟨p1, c1, rfl⟩ := hown.slice
  obtain ⟨g, rfl, -, hbg, hgw, hmc⟩ := OwnW.block hown (by omega)
  have HO := Lib.hid hown
  have HB1 := Lib.hid hb1
  have hz1 := hb1.size
  obtain ⟨e0, f0⟩ := HCELL.out w1 g c1 hown
  have HS := Lib.hid (HSET.out w1 g c1 hown)
  have HH1 := HH w1 hb1
  clear hown hb1 HCELL HSET HC HH
  go_wp2_with fail
  refine HH1.mono ?_
  rintro e w2 ⟨rfl, rfl⟩
  go_wp2_with fail
  go_region_with (go_at_call 45; refine (HB _).mono ?_; rintro e w' ⟨rfl, rfl⟩)
  all_goals
    go_wp2_with fail
    go_ret
    exact ⟨_, rfl, by rw [HOUT.out]; exact HS.out.1, (below_grown HB1.out HS.out.2 hz1 (fun k hk => by simp at hk; omega)).drew⟩

theorem sWithout (p : Option Addr) (n c : Nat) (s : Nat → Bool) (x : Int) (w : World) (h1 : SetIs w p n c s) :
    Calls Try.prog 33 #[.slice p n c, .int .i64 x] w fun e w' => ∃ q' m' d', e = .returned (.slice q' m' d') ∧ SetIs w' q' m' d' (fun v => s v && decide ((v : Int) ≠ x)) ∧ Below w.heap.size w w' := by
  have h0 := h1
  obtain ⟨L, a1, a2, a3, a4⟩ := h1
  have HH : ∀ w2, Below w.heap.size w w2 → Calls Try.prog 31 #[.slice p n c, .int .i64 x] w2 fun e w' => e = .returned (.bool (mayB x && s x.toNat)) ∧ w2 = w' := fun w2 hb => sHas p n c s x w2 (h0.step hb)
  cases hm : (mayB x && s x.toNat) with
  | false =>
    rw [hm] at HH
    refine (without_no p n c L x w a1 (by omega) HH).mono ?_
    rintro e w' ⟨v', rfl, hown, hb⟩
    obtain ⟨q', d', rfl, hin⟩ := in_of_row hown rfl
    refine ⟨q', _, d', rfl, ⟨L, hin, a2, by have := a1.1; omega, fun v hv => ?_⟩, hb⟩
    rw [a4 v hv]
    by_cases hvx : (v : Int) = x
    · subst hvx
      have : s v = false := by
        have hmay : mayB (v : Int) = true := by simp [mayB]; omega
        rw [hmay, Int.toNat_natCast, Bool.true_and] at hm
        exact hm
      simp [this]
    · simp [hvx]
  | true =>
    rw [hm] at HH
    have h2 : mayB x = true ∧ s x.toNat = true := by simpa using hm
    have h3 : 0 ≤ x ∧ x ≤ 65535 := by simpa [mayB] using h2.1
    obtain ⟨k, rfl⟩ : ∃ k : Nat, x = (k : Int) := ⟨x.toNat, by omega⟩
    rw [Int.toNat_natCast] at h2
    have hmem : memW L k = true := by rw [a4 k (by omega)]; exact h2.2
    refine (without_yes p n c L k w a1 (by omega) (by omega) hmem a2 HH).mono ?_
    rintro e w' ⟨v', rfl, hown, hb⟩
    obtain ⟨q', d', rfl, hin⟩ := in_of_row hown rfl
    refine ⟨q', _, d', rfl, ⟨outW L k, hin, outW_W64 a2 k, by rw [outW_length]; have := a1.1; omega, fun v hv => ?_⟩, hb⟩
    rw [memW_outW L k v (has_lt hmem), a4 v hv]
    congr 1
    rw [decide_eq_decide]
    omega
end Go.Proofs.Ytlfnefgcndhomaa
