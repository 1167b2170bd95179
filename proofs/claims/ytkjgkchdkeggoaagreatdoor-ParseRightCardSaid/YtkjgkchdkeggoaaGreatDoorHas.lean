/-
  slices.Contains over ints and over texts; the reader's need, take, is.
-/
import Derived.Test.YtkjgkchdkeggoaaGreatDoorLow
namespace Go.Proofs.YtkjgkchdkeggoaaGreatDoor
open Go.RowKit
set_option maxRecDepth 20000
set_option linter.unusedVariables false
set_option linter.unusedSimpArgs false

def hasI (ks : List Int) (v : Int) : Bool := ks.contains v
set_option maxHeartbeats 400000 in
theorem indexI_any (ks : List Int) (v : Int) (b c : Nat) (w : World) (hat : IntCells w b ks) (hc : ks.length ≤ c) (hm : ks.length ≤ 1000) :
    Calls Tryz.prog 116 #[.slice (some ⟨b, 0, none⟩) ks.length c, .int .i64 v] w fun e w' => (∃ r : Int, e = .returned (.int .i64 r) ∧ decide (0 ≤ r) = hasI ks v) ∧ w = w' := by
  have HA := Lib.hid hat
  clear hat
  obtain ⟨n, hn⟩ : ∃ n, n = ks.length := ⟨_, rfl⟩
  rw [← hn] at hc hm ⊢
  have HN := Lib.hid hn
  clear hn
  go_enter Tryz.func116, Tryz.ntmps116
  go_wp2
  go_loop [8] (fun i => ∃ k : Nat, k ≤ n ∧ i = .int .i64 k ∧ Hid (∀ j, (h : j < ks.length) → j < k → ks[j] ≠ v)) (fun i => n - (intOf i).toNat)
  case atStart => exact ⟨0, by omega, rfl, Lib.hid (fun j _ h => by omega)⟩
  case round =>
    obtain ⟨k, hk, rfl, HJ⟩ := hrel
    by_cases hlt : k < n
    · have hkl : k < ks.length := by rw [← HN.out]; exact hlt
      have hcell : w.cell? ⟨b, k, none⟩ = some (.int .i64 ks[k]) := HA.out k hkl
      have h0 : (0 : Int) ≤ (k : Int) := by omega
      have h1 : (k : Int) < (n : Int) := by omega
      by_cases he : v = ks[k]
      · have HB : Hid (decide (0 ≤ (k : Int)) = hasI ks v) := Lib.hid (by
          have : hasI ks v = true := by unfold hasI; rw [he]; exact List.contains_iff_mem.2 (List.getElem_mem hkl)
          rw [this]; simp)
        generalize ks[k] = x at *
        subst he
        go_wp2
        go_ret
        exact ⟨⟨_, rfl, HB.out⟩, rfl⟩
      · have HJ2 : Hid (∀ j, (h : j < ks.length) → j < k + 1 → ks[j] ≠ v) := Lib.hid fun j h hj => by
          rcases Nat.lt_or_ge j k with h3 | h3
          · exact HJ.out j h h3
          · obtain rfl : j = k := by omega
            exact fun e => he e.symm
        have he2 : (v == ks[k]) = false := by simpa using he
        generalize ks[k] = x at *
        go_wp2
        go_round
        case rel => exact ⟨k + 1, by omega, by go_num, HJ2⟩
        case measure => simp [intOf]; omega
    · have HB : Hid (decide ((0 : Int) ≤ -1) = hasI ks v) := Lib.hid (by
        have : hasI ks v = false := by
          unfold hasI
          rw [Bool.eq_false_iff]
          intro h
          obtain ⟨j, hj, e⟩ := List.getElem_of_mem (List.contains_iff_mem.1 h)
          exact HJ.out j hj (by rw [← HN.out] at hj; omega) e
        rw [this]; rfl)
      go_wp2
      go_ret
      exact ⟨⟨_, rfl, HB.out⟩, rfl⟩
theorem hasI_any (ks : List Int) (v : Int) (b c : Nat) (w : World) (hat : IntCells w b ks) (hc : ks.length ≤ c) (hm : ks.length ≤ 1000) :
    Calls Tryz.prog 99 #[.slice (some ⟨b, 0, none⟩) ks.length c, .int .i64 v] w fun e w' => e = .returned (.bool (ks.contains v)) ∧ w = w' := by
  have H := Lib.hid (indexI_any ks v b c w hat hc hm)
  clear hat
  generalize ks.length = n at *
  change Calls _ _ _ _ (fun e w' => e = .returned (.bool (hasI ks v)) ∧ w = w')
  generalize hasI ks v = q at *
  go_enter Tryz.func99, Tryz.ntmps99
  go_wp2_with fail
  refine H.out.mono ?_
  rintro e w1 ⟨⟨r, rfl, hr⟩, rfl⟩
  have HR := Lib.hid hr
  clear hr
  go_wp2_with fail
  go_ret
  exact ⟨ret_bool HR.out, rfl⟩
/-- A row of texts at a block. -/
def TxtCells (w : World) (g : Nat) (l : List ByteArray) : Prop := ∀ i, (h : i < l.length) → w.cell? ⟨g, i, none⟩ = some (.string l[i])
def hasT (l : List ByteArray) (t : ByteArray) : Bool := l.any fun x => t.toList == x.toList
set_option maxHeartbeats 400000 in
theorem indexT_any (ks : List ByteArray) (v : ByteArray) (b c : Nat) (w : World) (hat : TxtCells w b ks) (hc : ks.length ≤ c) (hm : ks.length ≤ 1000) :
    Calls Tryz.prog 126 #[.slice (some ⟨b, 0, none⟩) ks.length c, .string v] w fun e w' => (∃ r : Int, e = .returned (.int .i64 r) ∧ decide (0 ≤ r) = hasT ks v) ∧ w = w' := by
  have HA := Lib.hid hat
  clear hat
  obtain ⟨n, hn⟩ : ∃ n, n = ks.length := ⟨_, rfl⟩
  rw [← hn] at hc hm ⊢
  have HN := Lib.hid hn
  clear hn
  go_enter Tryz.func126, Tryz.ntmps126
  go_wp2
  go_loop [8] (fun i => ∃ k : Nat, k ≤ n ∧ i = .int .i64 k ∧ Hid (∀ j, (h : j < ks.length) → j < k → (v.toList == ks[j].toList) = false)) (fun i => n - (intOf i).toNat)
  case atStart => exact ⟨0, by omega, rfl, Lib.hid (fun j _ h => by omega)⟩
  case round =>
    obtain ⟨k, hk, rfl, HJ⟩ := hrel
    by_cases hlt : k < n
    · have hkl : k < ks.length := by rw [← HN.out]; exact hlt
      have hcell : w.cell? ⟨b, k, none⟩ = some (.string ks[k]) := HA.out k hkl
      have h0 : (0 : Int) ≤ (k : Int) := by omega
      have h1 : (k : Int) < (n : Int) := by omega
      cases he : (v.toList == ks[k].toList)
      · have HJ2 : Hid (∀ j, (h : j < ks.length) → j < k + 1 → (v.toList == ks[j].toList) = false) := Lib.hid fun j h hj => by
          rcases Nat.lt_or_ge j k with h3 | h3
          · exact HJ.out j h h3
          · obtain rfl : j = k := by omega
            exact he
        generalize ks[k] = x at *
        go_wp2
        go_round
        case rel => exact ⟨k + 1, by omega, by go_num, HJ2⟩
        case measure => simp [intOf]; omega
      · have HB : Hid (decide (0 ≤ (k : Int)) = hasT ks v) := Lib.hid (by
          have : hasT ks v = true := List.any_eq_true.2 ⟨ks[k], List.getElem_mem hkl, he⟩
          rw [this]; simp)
        generalize ks[k] = x at *
        go_wp2
        go_ret
        exact ⟨⟨_, rfl, HB.out⟩, rfl⟩
    · have HB : Hid (decide ((0 : Int) ≤ -1) = hasT ks v) := Lib.hid (by
        have : hasT ks v = false := by
          rw [Bool.eq_false_iff]
          intro h
          obtain ⟨x, hx, hxe⟩ := List.any_eq_true.1 h
          obtain ⟨j, hj, rfl⟩ := List.getElem_of_mem hx
          rw [HJ.out j hj (by rw [← HN.out] at hj; omega)] at hxe
          cases hxe
        rw [this]; rfl)
      go_wp2
      go_ret
      exact ⟨⟨_, rfl, HB.out⟩, rfl⟩
theorem hasT_any (ks : List ByteArray) (v : ByteArray) (b c : Nat) (w : World) (hat : TxtCells w b ks) (hc : ks.length ≤ c) (hm : ks.length ≤ 1000) :
    Calls Tryz.prog 114 #[.slice (some ⟨b, 0, none⟩) ks.length c, .string v] w fun e w' => e = .returned (.bool (hasT ks v)) ∧ w = w' := by
  have H := Lib.hid (indexT_any ks v b c w hat hc hm)
  clear hat
  generalize ks.length = n at *
  generalize hasT ks v = q at *
  go_enter Tryz.func114, Tryz.ntmps114
  go_wp2_with fail
  refine H.out.mono ?_
  rintro e w1 ⟨⟨r, rfl, hr⟩, rfl⟩
  have HR := Lib.hid hr
  clear hr
  go_wp2_with fail
  go_ret
  exact ⟨ret_bool HR.out, rfl⟩

/-- Nothing is handed back. -/
def RU : Unit → Value → World → Prop := fun _ v _ => v = .tuple #[]
/-- A token's number is handed back. -/
def RN : Nat → Value → World → Prop := fun m v _ => v = .int .i64 (m : Int)
theorem rneed_any (S : Src) (n d : Nat) (t : ByteArray) (w : World) (h : Rd w S n d) (ht : t.data.toList ≠ []) :
    Calls Tryz.prog 48 #[.pointer (some ⟨S.g, 0, none⟩), .string t] w fun e w' => Ends S d w (S.need t.data.toList n) RU e w' := by
  have H := Lib.hid (rpass_any S n d t w h ht)
  clear h
  unfold Src.need
  cases hi : S.is n t.data.toList <;> rw [hi] at H
  · go_enter Tryz.func48, Tryz.ntmps48
    go_wp2_with fail
    refine H.out.mono ?_
    rintro e w1 ⟨rfl, hr, hg⟩
    have HG := Lib.hid hg
    have HX := Lib.hid (expect_no S n d w1 hr)
    clear hr hg
    go_wp2_with fail
    refine HX.out.mono ?_
    rintro e w2 ⟨rfl, hb⟩
    exact ⟨rfl, Or.inr ⟨_, rfl, rfl, grown_trans HG.out (grown_below hb _)⟩⟩
  · go_enter Tryz.func48, Tryz.ntmps48
    go_wp2_with fail
    refine H.out.mono ?_
    rintro e w1 ⟨rfl, hr, hg⟩
    have HG := Lib.hid hg
    have HR := Lib.hid hr
    have HX := Lib.hid (expect_yes S (n + 1) d w1 hr)
    clear hr hg
    go_wp2_with fail
    refine HX.out.mono ?_
    rintro e w2 ⟨rfl, rfl⟩
    go_wp2_with fail
    go_end0
    exact Or.inl ⟨(), n + 1, _, rfl, rfl, rfl, HR.out, HG.out⟩
theorem rtake_any (S : Src) (n d : Nat) (ks : List Int) (b c : Nat) (w : World) (h : Rd w S n d) (hat : IntCells w b ks) (hb : b < w.heap.size) (hc : ks.length ≤ c) (hm : ks.length ≤ 1000) (hz : ks.contains 0 = false) :
    Calls Tryz.prog 78 #[.pointer (some ⟨S.g, 0, none⟩), .slice (some ⟨b, 0, none⟩) ks.length c] w fun e w' => Ends S d w (S.take ks n) RN e w' := by
  have H := Lib.hid (rkind_any S n d w h)
  have HR := Lib.hid h
  have HI := Lib.hid (fun w' (hw : Below w.heap.size w w') => hasI_any ks (S.kd n) b c w' (fun i hi => (hw.cell (p := ⟨b, _, none⟩) hb).trans (hat i hi)) hc hm)
  have hk : ks.contains (S.kd n) = true → S.kd n ≠ 0 := fun h1 h2 => by rw [h2, hz] at h1; cases h1
  have HK := Lib.hid hk
  have hbd := h.bound
  unfold Src.take
  clear hat h hk hz
  generalize ks.length = nl at *
  cases hi : ks.contains (S.kd n) <;> rw [hi] at HI HK
  · generalize S.kd n = kn at *
    go_enter Tryz.func78, Tryz.ntmps78
    go_wp2_with fail
    refine H.out.mono ?_
    rintro e w1 ⟨rfl, hb1⟩
    have HB := Lib.hid hb1
    clear hb1
    go_wp2_with fail
    refine (HI.out _ HB.out).mono ?_
    rintro e w2 ⟨rfl, rfl⟩
    have HX := Lib.hid (expect_no S n d w1 (HR.out.step HB.out))
    go_wp2_with fail
    refine HX.out.mono ?_
    rintro e w2 ⟨rfl, hb2⟩
    exact ⟨rfl, Or.inr ⟨_, rfl, rfl, grown_below (HB.out.trans (hb2.mono HB.out.size)) _⟩⟩
  · have hmore := HR.out.moreK (HK.out rfl)
    generalize S.kd n = kn at *
    go_enter Tryz.func78, Tryz.ntmps78
    go_wp2_with fail
    refine H.out.mono ?_
    rintro e w1 ⟨rfl, hb1⟩
    have HB := Lib.hid hb1
    clear hb1
    go_wp2_with fail
    refine (HI.out _ HB.out).mono ?_
    rintro e w2 ⟨rfl, rfl⟩
    have HR1 := Lib.hid (HR.out.step HB.out)
    have HX := Lib.hid (expect_yes S n d w1 HR1.out)
    have d2 := HR1.out.c2
    have f2 := HR1.out.free 2
    go_wp2_with fail
    refine HX.out.mono ?_
    rintro e w2 ⟨rfl, rfl⟩
    go_wp2_with fail
    have HBU := Lib.hid (HR1.out.bump hmore)
    have e2 := HBU.out.c2
    go_wp2_with fail
    go_ret
    exact Or.inl ⟨n, n + 1, _, rfl, rfl, rfl, HBU.out, grown_trans (grown_below HB.out _) (grown_set _ _ _)⟩
end Go.Proofs.YtkjgkchdkeggoaaGreatDoor
