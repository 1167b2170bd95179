/-
  The document's answer on what is linked (Linked), walked.
-/
import Derived.Test.YtggoajpemffbiaaSmr
import Derived.Test.YtggoajpemffbiaaCls
namespace Go.Proofs.Ytggoajpemffbiaa
open Go.RowKit
set_option maxRecDepth 20000
set_option linter.unusedVariables false
set_option linter.unusedSimpArgs false

theorem meetAll_snoc (l : List P2) (p : P2) (m : List Int) : meetAll (l ++ [p]) m = meet (meetAll l m) p := by simp [meetAll]
theorem meet_len (m : List Int) (p : P2) : (meet m p).length ≤ m.length + 1 := by
  unfold meet
  cases h1 : inI m p.1 <;> cases h2 : inI m p.2 <;> simp
theorem meetAll_len : ∀ (l : List P2) (m : List Int), (meetAll l m).length ≤ m.length + l.length
  | [], m => by simp [meetAll]
  | p :: l, m => by
    have h1 := meet_len m p
    have h2 := meetAll_len l (meet m p)
    show (meetAll l (meet m p)).length ≤ _
    simp only [List.length_cons]; omega
theorem meets_len (l : List P2) (a : Int) : ∀ k, (meets l a k).length ≤ 1 + k * l.length
  | 0 => by simp [meets]
  | k + 1 => by
    have h1 := meetAll_len l (meets l a k)
    have h2 := meets_len l a k
    have h3 : (k + 1) * l.length = k * l.length + l.length := Nat.succ_mul _ _
    show (meetAll l (meets l a k)).length ≤ _
    omega
set_option maxHeartbeats 8000000 in
theorem refLinked_any (q : Option Addr) (m c : Nat) (l : List P2) (a b : Int) (w : World) (h : PS w q m c l) (hm : m ≤ 60) :
    Calls Try.prog 18 #[.slice q m c, .int .i64 a, .int .i64 b] w fun e w' => e = .returned (.bool (inI (meets l a (l.length + 1)) b)) ∧ Below w.heap.size w w' := by
  obtain ⟨i3, hi3, hz0, hz1, hz2⟩ := info_parts info3
  have HP := Lib.hid h
  obtain ⟨hml, _⟩ := h
  have HML := Lib.hid hml
  clear hml
  have HO0 : Hid (OwnI (w.alloc (.cells #[.int .i64 a] 3)) w.heap.size (.slice (some ⟨w.heap.size, 0, none⟩) 1 1) [a]) := Lib.hid (World.ownsRow_lit w #[.int .i64 a] 1 (Nat.le_refl _) (by unfold maxLen; omega) rfl)
  have HB0 := Lib.hid ((Below.refl w.heap.size w).alloc (Nat.le_refl _) (.cells #[.int .i64 a] 3))
  go_enter Try.func18, Try.ntmps18
  go_wp2_with fail
  generalize hW0 : w.alloc (.cells #[.int .i64 a] 3) = W0 at *
  clear hW0
  go_loopw [7, 8] (fun v i wr => ∃ (k : Nat), k ≤ m + 1 ∧ i = .int .i64 k ∧ Hid (OwnI wr w.heap.size v (meets l a k)) ∧ Hid (Below w.heap.size w wr)) (fun _ i _ => m + 1 - (intOf i).toNat)
  case atStart => exact ⟨0, by omega, rfl, HO0, HB0⟩
  case round =>
    obtain ⟨k, hk, rfl, HO, HB⟩ := hrel
    clear HO0 HB0
    by_cases hlt : k ≤ m
    · have HLN : Hid ((meets l a k).length ≤ 3700) := Lib.hid (by
        have := meets_len l a k
        have h2 : k * l.length ≤ 60 * 60 := Nat.mul_le_mul (by omega) (by have := HML.out; omega)
        omega)
      obtain ⟨wo, hwo⟩ : ∃ wo : World, wo = wr := ⟨_, rfl⟩
      subst hwo
      go_wp2_with fail
      go_loopw [7, 9] (fun v i wi => ∃ (j : Nat), j ≤ m ∧ i = .int .i64 j ∧ Hid (OwnI wi w.heap.size v (meetAll (l.take j) (meets l a k))) ∧ Hid (Below w.heap.size w wi)) (fun _ i _ => m - (intOf i).toNat)
      case atStart => exact ⟨0, by omega, rfl, HO, HB⟩
      case round =>
        obtain ⟨j, hj, rfl, HO2, HB2⟩ := hrel
        clear HO HB
        by_cases hlt2 : j < m
        · obtain ⟨hmm, h0 | ⟨gb, o, rfl, hcb, hgb, hat⟩⟩ := HP.out
          · omega
          clear hmm
          obtain ⟨p, hp⟩ : ∃ p, l[j]? = some p := ⟨_, List.getElem?_eq_getElem (by have := HML.out; omega)⟩
          obtain ⟨v0, v1⟩ := hat j p hp
          rw [← HB2.out.cell (p := ⟨gb, _, none⟩) hgb] at v0 v1
          have hbz := HB2.out.size
          have hgb2 : gb < wr.heap.size := by omega
          have s1 : (0 : Int) ≤ (j : Int) := by omega
          have s2 : (j : Int) < (m : Int) := by omega
          obtain ⟨M2, hM2⟩ : ∃ M2, M2 = meetAll (l.take (j + 1)) (meets l a k) := ⟨_, rfl⟩
          have HM2 := Lib.hid hM2
          have HTK : Hid (M2 = meet (meetAll (l.take j) (meets l a k)) p) := Lib.hid (by rw [hM2, take_snoc hp, meetAll_snoc])
          have HLM : Hid ((meetAll (l.take j) (meets l a k)).length ≤ 4000) := Lib.hid (by
            have h1 := meetAll_len (l.take j) (meets l a k)
            have h2 := HLN.out
            simp only [List.length_take] at h1
            omega)
          clear hp hat hM2
          generalize meetAll (l.take j) (meets l a k) = M at *
          obtain ⟨qv, nv, cv, hv, his⟩ := HO2.out.is
          subst hv
          have HIS := Lib.hid his
          have HNV : Hid (nv = M.length) := Lib.hid his.1
          have hnv : nv ≤ 4000 := by have := his.1; have := HLM.out; omega
          have HQ : Hid (∀ x d, Calls Try.prog 15 #[.slice qv nv cv, .int .i64 x] (wr.drewN d) fun e w' => e = .returned (.bool (inI M x)) ∧ ∃ n, w' = wr.drewN n) := Lib.hid fun x d => by
            refine (in_any qv nv cv M x _ (HIS.out.step (below_drewN (Below.refl _ _) d)) (by omega)).mono ?_
            rintro e w' ⟨h1, rfl⟩
            exact ⟨h1, d, rfl⟩
          have hq1 := HQ.out p.1
          have hq2 := HQ.out p.2
          have HE : Hid (M2 = M ++ ((bif inI M p.1 && !inI M p.2 then [p.2] else []) ++ (bif inI M p.2 && !inI M p.1 then [p.1] else []))) := Lib.hid HTK.out
          clear HTK HQ his
          have hrow := HO2.out
          unfold OwnI at hrow
          have HROW := Lib.hid hrow
          clear hrow
          cases hx : inI M p.1 <;> cases hy : inI M p.2
          · rw [hx] at hq1 HE
            rw [hy] at hq2 HE
            clear hx hy
            have HE2 : Hid (M2 = M) := Lib.hid (by rw [HE.out]; simp)
            go_wp2_with fail
            go_quiet (first | (with_reducible exact hq1 _) | (with_reducible exact hq2 _))
            go_wp2_with fail
            go_roundw
            case rel => exact ⟨j + 1, by omega, by go_num, Lib.hid (by rw [← HM2.out, HE2.out]; exact HO2.out.step (below_drewN (Below.refl _ _) _)), Lib.hid (below_drewN HB2.out _)⟩
            case measure => simp [intOf]; omega
          · rw [hx] at hq1 HE
            rw [hy] at hq2 HE
            clear hx hy
            have HE2 : Hid (M2 = M ++ [p.1]) := Lib.hid (by rw [HE.out]; simp)
            go_wp2_with fail
            go_quiet (first | (with_reducible exact hq1 _) | (with_reducible exact hq2 _))
            have HBq := Lib.hid (below_drewN HB2.out nq)
            have HRq : Hid ((wr.drewN nq).ownsRow w.heap.size 3 1 (.slice qv nv cv) M.length (M.map (Value.int .i64))) := Lib.hid (HO2.out.step (below_drewN (Below.refl _ _) nq))
            have v0' : (wr.drewN nq).cell? ⟨gb, o + j * 2, none⟩ = some (.int .i64 p.1) := v0
            have v1' : (wr.drewN nq).cell? ⟨gb, o + j * 2 + 1, none⟩ = some (.int .i64 p.2) := v1
            have hgs : gb < (wr.drewN nq).heap.size := hgb2
            clear v0 v1 hq1 hq2
            generalize wr.drewN nq = Wq at *
            have hqz := HBq.out.size
            have hnm : M.length ≤ 4000 := HLM.out
            go_wp2_with (first | (at_builtin; refine wpList_append_own _ rfl _ _ 22 rfl w.heap.size 3 i3 (.int .i64 0) 1 8 Try.underlying22 hi3 hz0 hz1 hz2 rfl (by omega) _ _ _ rfl (World.ownsRow.alloc HRq.out _) ⟨Wq.heap.size, 0, none⟩ 1 1 [.int .i64 p.1] rfl rfl (one_new _ _ _) (one_cell _ _) (by unfold maxLen; omega) (by omega) (by simp; omega) ?_; intro v' w1 hown hgrow _; have HO4 : Hid (OwnI w1 w.heap.size v' M2) := Lib.hid (by rw [HE2.out]; exact OwnI.snoc hown); have HB4 := Lib.hid ((HBq.out.alloc hqz _).grown hgrow (by simp; omega) (fun j hj => (World.ownsRow.lt HRq.out j hj).1)); clear hown hgrow) | go_in)
            go_roundw
            case rel => exact ⟨j + 1, by omega, by go_num, Lib.hid (by rw [← HM2.out]; exact HO4.out), HB4⟩
            case measure => simp [intOf]; omega
          · rw [hx] at hq1 HE
            rw [hy] at hq2 HE
            clear hx hy
            have HE2 : Hid (M2 = M ++ [p.2]) := Lib.hid (by rw [HE.out]; simp)
            go_wp2_with fail
            go_quiet (first | (with_reducible exact hq1 _) | (with_reducible exact hq2 _))
            have HBq := Lib.hid (below_drewN HB2.out nq)
            have HRq : Hid ((wr.drewN nq).ownsRow w.heap.size 3 1 (.slice qv nv cv) M.length (M.map (Value.int .i64))) := Lib.hid (HO2.out.step (below_drewN (Below.refl _ _) nq))
            have v0' : (wr.drewN nq).cell? ⟨gb, o + j * 2, none⟩ = some (.int .i64 p.1) := v0
            have v1' : (wr.drewN nq).cell? ⟨gb, o + j * 2 + 1, none⟩ = some (.int .i64 p.2) := v1
            have hgs : gb < (wr.drewN nq).heap.size := hgb2
            clear v0 v1 hq1 hq2
            generalize wr.drewN nq = Wq at *
            have hqz := HBq.out.size
            have hnm : M.length ≤ 4000 := HLM.out
            go_wp2_with (first | (at_builtin; refine wpList_append_own _ rfl _ _ 22 rfl w.heap.size 3 i3 (.int .i64 0) 1 8 Try.underlying22 hi3 hz0 hz1 hz2 rfl (by omega) _ _ _ rfl (World.ownsRow.alloc HRq.out _) ⟨Wq.heap.size, 0, none⟩ 1 1 [.int .i64 p.2] rfl rfl (one_new _ _ _) (one_cell _ _) (by unfold maxLen; omega) (by omega) (by simp; omega) ?_; intro v' w1 hown hgrow _; have HO4 : Hid (OwnI w1 w.heap.size v' M2) := Lib.hid (by rw [HE2.out]; exact OwnI.snoc hown); have HB4 := Lib.hid ((HBq.out.alloc hqz _).grown hgrow (by simp; omega) (fun j hj => (World.ownsRow.lt HRq.out j hj).1)); clear hown hgrow) | go_in)
            go_roundw
            case rel => exact ⟨j + 1, by omega, by go_num, Lib.hid (by rw [← HM2.out]; exact HO4.out), HB4⟩
            case measure => simp [intOf]; omega
          · rw [hx] at hq1 HE
            rw [hy] at hq2 HE
            clear hx hy
            have HE2 : Hid (M2 = M) := Lib.hid (by rw [HE.out]; simp)
            go_wp2_with fail
            go_quiet (first | (with_reducible exact hq1 _) | (with_reducible exact hq2 _))
            go_wp2_with fail
            go_roundw
            case rel => exact ⟨j + 1, by omega, by go_num, Lib.hid (by rw [← HM2.out, HE2.out]; exact HO2.out.step (below_drewN (Below.refl _ _) _)), Lib.hid (below_drewN HB2.out _)⟩
            case measure => simp [intOf]; omega
        · have hjm : j = m := by omega
          have HF : Hid (OwnI wr w.heap.size u7 (meets l a (k + 1))) := Lib.hid (by have := HO2.out; rw [hjm, HML.out, List.take_length] at this; exact this)
          clear hjm
          go_wp2_with fail
          go_roundw
          case rel => exact ⟨k + 1, by omega, by go_num, HF, HB2⟩
          case measure => simp [intOf]; omega
    · have hkm : k = m + 1 := by omega
      have HF : Hid (OwnI wr w.heap.size u7 (meets l a (l.length + 1))) := Lib.hid (by have := HO.out; rwa [hkm, HML.out] at this)
      obtain ⟨qv, nv, cv, hv, his⟩ := HF.out.is
      subst hv
      have HC : Hid (Calls Try.prog 15 #[.slice qv nv cv, .int .i64 b] wr fun e w' => e = .returned (.bool (inI (meets l a (l.length + 1)) b)) ∧ wr = w') := Lib.hid (in_any qv nv cv _ b wr his (by first | omega | (have h1 := meets_len l a (l.length + 1); have h2 : (l.length + 1) * l.length ≤ 61 * 60 := Nat.mul_le_mul (by have := HML.out; omega) (by have := HML.out; omega); have := his.1; omega)))
      clear hkm his
      go_wp2_with (go_at_call 15; refine HC.out.mono ?_; rintro e w2 ⟨rfl, rfl⟩)
      go_ret
      exact ⟨rfl, HB.out⟩
end Go.Proofs.Ytggoajpemffbiaa
