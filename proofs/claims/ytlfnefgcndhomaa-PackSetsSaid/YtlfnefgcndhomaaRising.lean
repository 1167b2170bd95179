/-
  The document's Rising.
-/
import Derived.Test.YtlfnefgcndhomaaRise
import Derived.Test.YtlfnefgcndhomaaRefList
import Derived.Test.YtlfnefgcndhomaaOnto
import Derived.Test.YtlfnefgcndhomaaFrom
namespace Go.Proofs.Ytlfnefgcndhomaa
open Go.RowKit
set_option linter.unusedVariables false

theorem In.take {α : Type} {mk : α → Value} {w : World} {p : Option Addr} {n c : Nat} {l : List α} (h : In mk w p n c l) (j : Nat) (hj : j ≤ n) : In mk w p j c (l.take j) := by
  obtain ⟨hn, h0 | ⟨b, off, rfl, hc, hb, hat⟩⟩ := h
  · exact ⟨by simp; omega, .inl (by omega)⟩
  · refine ⟨by simp; omega, .inr ⟨b, off, rfl, by omega, hb, fun i hi => ?_⟩⟩
    rw [List.getElem_take]
    exact hat i (by simp at hi; omega)
theorem below_fresh {w w1 : World} (o : Obj) {n c : Nat} (hg : (w.alloc o).grownBy w1 (Value.slice (some ⟨w.heap.size, 0, none⟩) n c).ownBlock) : Below w.heap.size w w1 :=
  ((Below.refl _ w).alloc (Nat.le_refl _) o).grown hg (by simp) (fun k hk => by simp [Value.ownBlock] at hk; omega)

theorem row_base {w : World} {base base' E n : Nat} {v : Value} {xs : List Value} (h : w.ownsRow base E 1 v n xs) (hb : base' ≤ base) : w.ownsRow base' E 1 v n xs := by
  refine ⟨h.1, ?_⟩
  rcases h.2 with h1 | ⟨g, c, cur, h1, h2, h3⟩
  · exact .inl h1
  · exact .inr ⟨g, c, cur, h1, by omega, h3⟩

/-- What a round of Rising knows. -/
def RiseRel (l : List Int) (n : Nat) (w : World) (v i : Value) (wr : World) : Prop :=
  ∃ k : Nat, k ≤ n ∧ i = .int .i64 (k : Int) ∧ OwnI wr w.heap.size v (lst (inS (l.take k))) ∧ Below w.heap.size w wr

set_option maxRecDepth 10000 in
set_option maxHeartbeats 4000000 in
theorem rising_some (l : List Int) (b off c n : Nat) (w : World) (hat : At mkI w b off l) (hb : b < w.heap.size) (hc : n ≤ c) (hl : n ≤ 1000) (hn : l.length = n) :
    Calls Try.prog 35 #[.slice (some ⟨b, off, none⟩) n c] w fun e w' => ∃ v', e = .returned v' ∧ OwnI w' w.heap.size v' (lst (inS l)) ∧ Below w.heap.size w w' := by
  obtain ⟨i0, hi0, hy0, hy1, hy2⟩ := info_parts info3
  have H := Lib.hid hat
  have HN := Lib.hid hn
  have HV : Hid (RiseRel l n w (.slice none 0 0) (.int .i64 0) w) := Lib.hid ⟨0, by omega, rfl, by rw [List.take_zero, inS_nil]; exact World.ownsRow_nil _ _ _ _, Below.refl _ _⟩
  clear hat hn
  go_enter Try.func35, Try.ntmps35
  go_wp2
  go_loopw [3, 4] (fun v i wr => RiseRel l n w v i wr) (fun _ i _ => n - (intOf i).toNat)
  case atStart => exact HV.out
  case round =>
    obtain ⟨k, hk, hi, hown, hbe⟩ := hrel
    subst hi
    have hz := hbe.size
    have HB := Lib.hid hbe
    clear HV
    by_cases hlt : k < n
    · have hkl : Hid (k < l.length) := Lib.hid (by rw [HN.out]; exact hlt)
      have e0 : wr.cell? ⟨b, off + k, none⟩ = some (.int .i64 (l[k]'(hkl.out))) := (hbe.cell (p := ⟨b, off + k, none⟩) hb).trans (H.out k hkl.out)
      have HT : Hid (l.take (k + 1) = l.take k ++ [l[k]'(hkl.out)]) := Lib.hid (List.take_succ_eq_append_getElem hkl.out)
      generalize l[k]'(hkl.out) = x at *
      have HSK := Lib.hid (fun h => rise_skip (l.take k) x h)
      have hlen : Hid ((lst (inS (l.take k))).length ≤ 65536) := Lib.hid (lst_length _)
      have HPUT := Lib.hid (fun (m : Nat) (hm : m ≤ 65535) (h : ¬ (m : Int) ∈ lst (inS (l.take k))) => rise_put (l.take k) m hm h)
      obtain ⟨T, hT⟩ : ∃ T, lst (inS (l.take k)) = T := ⟨_, rfl⟩
      rw [hT] at hown hlen
      have HTT := Lib.hid hT
      clear hT
      have HO := Lib.hid hown
      obtain ⟨p, d, hv, hin⟩ := in_of_row hown rfl
      subst hv
      have HIN := Lib.hid hin
      clear hbe hown hin
      by_cases hneg : x < 0
      · have HREL : Hid (RiseRel l n w (.slice p T.length d) (.int .i64 ((k + 1 : Nat) : Int)) wr) := Lib.hid ⟨k + 1, by omega, rfl, by rw [HT.out, HSK.out (.inl (by simp [mayB]; omega)), HTT.out]; exact HO.out, HB.out⟩
        go_wp2_with fail
        go_roundw
        case rel => exact HREL.out
        case measure => simp [intOf]; omega
      · by_cases hbig : 65535 < x
        · have HREL : Hid (RiseRel l n w (.slice p T.length d) (.int .i64 ((k + 1 : Nat) : Int)) wr) := Lib.hid ⟨k + 1, by omega, rfl, by rw [HT.out, HSK.out (.inl (by simp [mayB]; omega)), HTT.out]; exact HO.out, HB.out⟩
          go_wp2_with fail
          go_roundw
          case rel => exact HREL.out
          case measure => simp [intOf]; omega
        · have HIS := isIn_any p T.length d T x wr HIN.out (by have := hlen.out; omega)
          by_cases hmem : x ∈ T
          · rw [decide_eq_true hmem] at HIS
            have HREL : Hid (RiseRel l n w (.slice p T.length d) (.int .i64 ((k + 1 : Nat) : Int)) wr) := Lib.hid ⟨k + 1, by omega, rfl, by rw [HT.out, HSK.out (.inr (by rw [HTT.out]; exact hmem)), HTT.out]; exact HO.out, HB.out⟩
            clear hmem
            go_wp2_with fail
            refine HIS.mono ?_
            rintro e w1 ⟨rfl, rfl⟩
            go_wp2_with fail
            go_roundw
            case rel => exact HREL.out
            case measure => simp [intOf]; omega
          · rw [decide_eq_false hmem] at HIS
            go_wp2_with fail
            refine HIS.mono ?_
            rintro e w1 ⟨rfl, rfl⟩
            obtain ⟨m, hm⟩ : ∃ m : Nat, x = (m : Int) := ⟨x.toNat, by omega⟩
            obtain ⟨hA, hA2⟩ := HPUT.out m (by omega) (by rw [HTT.out, ← hm]; exact hmem)
            have hlo := lowS_lt (inS (l.take k)) m
            have hhi := highS_gt (inS (l.take k)) m
            rw [HTT.out] at hA
            rw [← hm, ← HT.out] at hA2
            rw [← hm] at hlo hhi
            generalize lowS (inS (l.take k)) m = A at *
            generalize highS (inS (l.take k)) m = B at *
            have HA := Lib.hid hA
            have HA2 := Lib.hid hA2
            have HLO := Lib.hid hlo
            have HHI := Lib.hid hhi
            have HAL : Hid (A.length ≤ T.length) := Lib.hid (by rw [hA]; simp)
            clear hmem hm hA hA2 hlo hhi HIS HPUT HSK
            rcases HIN.out.2 with h0 | ⟨b', o', hp, hcd, hb', hat'⟩
            · have hT0 := Lib.hid h0
              have hj : Hid ((0 : Nat) = A.length) := Lib.hid (by have := HAL.out; omega)
              obtain ⟨j, hj0⟩ : ∃ j : Nat, j = 0 := ⟨_, rfl⟩
              rw [← hj0] at hj
              have HJ0 : Hid (((T.length : Nat) : Int) = (j : Int)) := Lib.hid (by omega)
              have hj00 : ¬ 0 < j := by omega
              clear h0 hj0
              go_wp2_with fail
              rw [HJ0.out]
              refine wp_loop_rounds 1 ?_
              rw [rounds_succ]
              have HAT : Hid (T.take j = A) := Lib.hid (by rw [HA.out, hj.out]; exact List.take_left)
              have HBT : Hid (T.drop j = B) := Lib.hid (by rw [HA.out, hj.out]; exact List.drop_left)
              have hjT : j ≤ T.length := by have := hj.out; have := HAL.out; omega
              have hT16 : T.length ≤ 100000 := by have := hlen.out; omega
              have hin1 := HIN.out.take j hjT
              rw [HAT.out] at hin1
              obtain ⟨p2, hsl, hin2⟩ := slice_from 41 3 i0 Try.underlying41 hi0 hy1 HIN.out j hjT
              rw [HBT.out] at hin2
              have HI1 := Lib.hid (hin1.step ((Below.refl wr.heap.size wr).alloc (Nat.le_refl _) (.cells #[] 3)))
              have HI2 := Lib.hid hin2
              have HTJ : Hid (T.length - j = B.length) := Lib.hid (by rw [← HBT.out, List.length_drop])
              have hTB : T.length - j ≤ 100000 := by omega
              clear hin1 hin2
              go_wp2_with (at_builtin; refine wpList_append_in _ rfl (.tmp 44) (.tmp 47) 41 rfl wr.heap.size 3 i0 (.int .i64 0) 8 Try.underlying41 hi0 hy0 hy1 hy2 rfl _ 0 [] rfl (World.ownsRow_made wr #[] 0 (Nat.le_refl _) (Nat.zero_le _) rfl) mkI oneI p j d A rfl HI1.out (by unfold maxLen; omega) (by omega) (by simp) ?_)
              intro v1 w1 hown1 hgrow1
              have hb1 := below_fresh _ hgrow1
              have hz1 := hb1.size
              have HO1 : Hid (w1.ownsRow wr.heap.size 3 1 v1 j (A.map mkI)) := Lib.hid (by simpa using hown1)
              have HB1 := Lib.hid hb1
              clear hown1 hgrow1 hb1 HI1
              go_wp2_with (at_builtin; refine wpList_append_own _ rfl _ _ 41 rfl wr.heap.size 3 i0 (.int .i64 0) 1 8 Try.underlying41 hi0 hy0 hy1 hy2 rfl (by omega) _ j (A.map mkI) rfl (World.ownsRow.alloc HO1.out _) ⟨_, 0, none⟩ 1 1 [Value.int .i64 x] rfl rfl (one_new _ _ _) (one_cell _ _) (by unfold maxLen; omega) (by omega) (by simp; omega) ?_)
              intro v2 w2 hown2 hgrow2 _
              have hb2 := below_rowI HB1.out hz1 _ HO1.out hgrow2
              have hz2 := hb2.size
              have HO2 := Lib.hid hown2
              have HB2 := Lib.hid hb2
              have HI3 := Lib.hid (HI2.out.step hb2)
              clear hown2 hgrow2 hb2 HB1 HO1 HI2
              go_wp2_with (at_builtin; refine wpList_append_in _ rfl (.tmp 53) (.tmp 56) 41 rfl wr.heap.size 3 i0 (.int .i64 0) 8 Try.underlying41 hi0 hy0 hy1 hy2 rfl _ (j + 1) _ rfl HO2.out mkI oneI p2 (T.length - j) (d - j) B rfl HI3.out (by unfold maxLen; omega) (by omega) (by omega) ?_)
              intro v3 w3 hown3 hgrow3
              have HB3 := Lib.hid (HB.out.trans ((HB2.out.grown hgrow3 hz2 (fun q hq => (World.ownsRow.lt HO2.out q hq).1)).mono hz))
              have HO3 : Hid (OwnI w3 w.heap.size v3 (lst (inS (l.take (k + 1))))) := Lib.hid (own_i (row_base hown3 hz) _ (by rw [HA2.out, HTJ.out, hj.out]; simp; omega) (by rw [HA2.out]; simp))
              have HREL : Hid (RiseRel l n w v3 (.int .i64 ((k + 1 : Nat) : Int)) w3) := Lib.hid ⟨k + 1, by omega, rfl, HO3.out, HB3.out⟩
              clear hown3 hgrow3 HO2 HI3
              go_wp2_with fail
              go_roundw
              case rel => exact HREL.out
              case measure => simp [intOf]; omega
            · subst hp
              have HATT := Lib.hid hat'
              have hT17 : T.length ≤ 100000 := by have := hlen.out; omega
              clear hat'
              go_wp2_with fail
              go_loop [6] (fun v => ∃ j : Nat, A.length ≤ j ∧ j ≤ T.length ∧ v = .int .i64 j) (fun v => (intOf v).toNat)
              case atStart => exact ⟨T.length, HAL.out, Nat.le_refl _, rfl⟩
              case round =>
                obtain ⟨j, hj1, hj2, rfl⟩ := hrel
                by_cases hgt : A.length < j
                · obtain ⟨g, rfl⟩ : ∃ g, j = g + 1 := ⟨j - 1, by omega⟩
                  have hgT : Hid (g < T.length) := Lib.hid (by omega)
                  have e1 : wr.cell? ⟨b', o' + g, none⟩ = some (.int .i64 (T[g]'(hgT.out))) := HATT.out g hgT.out
                  have hbig2 : x < T[g]'(hgT.out) := HHI.out _ (by
                    have h2 := HA.out
                    have : T[g]'(hgT.out) = (A ++ B)[g]'(by rw [← h2]; exact hgT.out) := by congr 1
                    rw [this, List.getElem_append_right (by omega)]
                    exact List.getElem_mem _)
                  generalize T[g]'(hgT.out) = y at *
                  go_wp2_with fail
                  go_round
                  case rel => exact ⟨g, by omega, by omega, by go_num⟩
                  case measure => simp [intOf]
                · have hj : Hid (j = A.length) := Lib.hid (by omega)
                  by_cases hj0 : 0 < j
                  · obtain ⟨g, rfl⟩ : ∃ g, j = g + 1 := ⟨j - 1, by omega⟩
                    have hgT : Hid (g < T.length) := Lib.hid (by omega)
                    have e1 : wr.cell? ⟨b', o' + g, none⟩ = some (.int .i64 (T[g]'(hgT.out))) := HATT.out g hgT.out
                    have hsm : T[g]'(hgT.out) < x := HLO.out _ (by
                      have h2 := HA.out
                      have : T[g]'(hgT.out) = (A ++ B)[g]'(by rw [← h2]; exact hgT.out) := by congr 1
                      rw [this, List.getElem_append_left (by omega)]
                      exact List.getElem_mem _)
                    generalize T[g]'(hgT.out) = y at *
                    clear hgt hj1 hj0
                    have hyx : decide (x < y) = false := decide_eq_false (by omega)
                    have HAT : Hid (T.take (g + 1) = A) := Lib.hid (by rw [HA.out, hj.out]; exact List.take_left)
                    have HBT : Hid (T.drop (g + 1) = B) := Lib.hid (by rw [HA.out, hj.out]; exact List.drop_left)
                    have hjT : (g + 1) ≤ T.length := by have := hj.out; have := HAL.out; omega
                    have hT16 : T.length ≤ 100000 := by have := hlen.out; omega
                    have hin1 := HIN.out.take (g + 1) hjT
                    rw [HAT.out] at hin1
                    obtain ⟨p2, hsl, hin2⟩ := slice_from 41 3 i0 Try.underlying41 hi0 hy1 HIN.out (g + 1) hjT
                    rw [show ((g + 1 : Nat) : Int) = (g : Int) + 1 by omega] at hsl
                    rw [HBT.out] at hin2
                    have HI1 := Lib.hid (hin1.step ((Below.refl wr.heap.size wr).alloc (Nat.le_refl _) (.cells #[] 3)))
                    have HI2 := Lib.hid hin2
                    have HTJ : Hid (T.length - (g + 1) = B.length) := Lib.hid (by rw [← HBT.out, List.length_drop])
                    have hTB : T.length - (g + 1) ≤ 100000 := by omega
                    clear hin1 hin2
                    go_wp2_with (at_builtin; refine wpList_append_in _ rfl (.tmp 44) (.tmp 47) 41 rfl wr.heap.size 3 i0 (.int .i64 0) 8 Try.underlying41 hi0 hy0 hy1 hy2 rfl _ 0 [] rfl (World.ownsRow_made wr #[] 0 (Nat.le_refl _) (Nat.zero_le _) rfl) mkI oneI (some ⟨b', o', none⟩) (g + 1) d A rfl HI1.out (by unfold maxLen; omega) (by omega) (by simp) ?_)
                    intro v1 w1 hown1 hgrow1
                    have hb1 := below_fresh _ hgrow1
                    have hz1 := hb1.size
                    have HO1 : Hid (w1.ownsRow wr.heap.size 3 1 v1 (g + 1) (A.map mkI)) := Lib.hid (by simpa using hown1)
                    have HB1 := Lib.hid hb1
                    clear hown1 hgrow1 hb1 HI1
                    go_wp2_with (at_builtin; refine wpList_append_own _ rfl _ _ 41 rfl wr.heap.size 3 i0 (.int .i64 0) 1 8 Try.underlying41 hi0 hy0 hy1 hy2 rfl (by omega) _ (g + 1) (A.map mkI) rfl (World.ownsRow.alloc HO1.out _) ⟨_, 0, none⟩ 1 1 [Value.int .i64 x] rfl rfl (one_new _ _ _) (one_cell _ _) (by unfold maxLen; omega) (by omega) (by simp; omega) ?_)
                    intro v2 w2 hown2 hgrow2 _
                    have hb2 := below_rowI HB1.out hz1 _ HO1.out hgrow2
                    have hz2 := hb2.size
                    have HO2 := Lib.hid hown2
                    have HB2 := Lib.hid hb2
                    have HI3 := Lib.hid (HI2.out.step hb2)
                    clear hown2 hgrow2 hb2 HB1 HO1 HI2
                    go_wp2_with (at_builtin; refine wpList_append_in _ rfl (.tmp 53) (.tmp 56) 41 rfl wr.heap.size 3 i0 (.int .i64 0) 8 Try.underlying41 hi0 hy0 hy1 hy2 rfl _ ((g + 1) + 1) _ rfl HO2.out mkI oneI p2 (T.length - (g + 1)) (d - (g + 1)) B rfl HI3.out (by unfold maxLen; omega) (by omega) (by omega) ?_)
                    intro v3 w3 hown3 hgrow3
                    have HB3 := Lib.hid (HB.out.trans ((HB2.out.grown hgrow3 hz2 (fun q hq => (World.ownsRow.lt HO2.out q hq).1)).mono hz))
                    have HO3 : Hid (OwnI w3 w.heap.size v3 (lst (inS (l.take (k + 1))))) := Lib.hid (own_i (row_base hown3 hz) _ (by rw [HA2.out, HTJ.out, hj.out]; simp; omega) (by rw [HA2.out]; simp))
                    have HREL : Hid (RiseRel l n w v3 (.int .i64 ((k + 1 : Nat) : Int)) w3) := Lib.hid ⟨k + 1, by omega, rfl, HO3.out, HB3.out⟩
                    clear hown3 hgrow3 HO2 HI3
                    go_wp2_with fail
                    go_roundw
                    case rel => exact HREL.out
                    case measure => simp [intOf]; omega
                  · obtain rfl : j = 0 := by omega
                    clear hgt hj1 hj0 hj2
                    rw [show ((0 : Nat) : Int) = 0 from rfl]
                    have HAT : Hid (T.take 0 = A) := Lib.hid (by rw [HA.out, hj.out]; exact List.take_left)
                    have HBT : Hid (T.drop 0 = B) := Lib.hid (by rw [HA.out, hj.out]; exact List.drop_left)
                    have hjT : 0 ≤ T.length := by have := hj.out; have := HAL.out; omega
                    have hT16 : T.length ≤ 100000 := by have := hlen.out; omega
                    have hin1 := HIN.out.take 0 hjT
                    rw [HAT.out] at hin1
                    obtain ⟨p2, hsl, hin2⟩ := slice_from 41 3 i0 Try.underlying41 hi0 hy1 HIN.out 0 hjT
                    rw [HBT.out] at hin2
                    have hsl0 : ∀ w, (Instr.slice 41 (.slice (some ⟨b', o', none⟩) T.length d) (some (.int .i64 0)) none none).run Try.prog w = .ok (.slice p2 T.length d) w := hsl
                    clear hsl
                    have HI1 := Lib.hid (hin1.step ((Below.refl wr.heap.size wr).alloc (Nat.le_refl _) (.cells #[] 3)))
                    have HI2 := Lib.hid hin2
                    have HTJ : Hid (T.length = B.length) := Lib.hid (by rw [← HBT.out, List.length_drop]; rfl)
                    have hTB : T.length ≤ 100000 := by omega
                    clear hin1 hin2
                    go_wp2_with (at_builtin; refine wpList_append_in _ rfl (.tmp 44) (.tmp 47) 41 rfl wr.heap.size 3 i0 (.int .i64 0) 8 Try.underlying41 hi0 hy0 hy1 hy2 rfl _ 0 [] rfl (World.ownsRow_made wr #[] 0 (Nat.le_refl _) (Nat.zero_le _) rfl) mkI oneI (some ⟨b', o', none⟩) 0 d A rfl HI1.out (by unfold maxLen; omega) (by omega) (by simp) ?_)
                    intro v1 w1 hown1 hgrow1
                    have hb1 := below_fresh _ hgrow1
                    have hz1 := hb1.size
                    have HO1 : Hid (w1.ownsRow wr.heap.size 3 1 v1 0 (A.map mkI)) := Lib.hid (by simpa using hown1)
                    have HB1 := Lib.hid hb1
                    clear hown1 hgrow1 hb1 HI1
                    go_wp2_with (at_builtin; refine wpList_append_own _ rfl _ _ 41 rfl wr.heap.size 3 i0 (.int .i64 0) 1 8 Try.underlying41 hi0 hy0 hy1 hy2 rfl (by omega) _ 0 (A.map mkI) rfl (World.ownsRow.alloc HO1.out _) ⟨_, 0, none⟩ 1 1 [Value.int .i64 x] rfl rfl (one_new _ _ _) (one_cell _ _) (by unfold maxLen; omega) (by omega) (by simp; omega) ?_)
                    intro v2 w2 hown2 hgrow2 _
                    have hb2 := below_rowI HB1.out hz1 _ HO1.out hgrow2
                    have hz2 := hb2.size
                    have HO2 := Lib.hid hown2
                    have HB2 := Lib.hid hb2
                    have HI3 := Lib.hid (HI2.out.step hb2)
                    clear hown2 hgrow2 hb2 HB1 HO1 HI2
                    go_wp2_with (at_builtin; refine wpList_append_in _ rfl (.tmp 53) (.tmp 56) 41 rfl wr.heap.size 3 i0 (.int .i64 0) 8 Try.underlying41 hi0 hy0 hy1 hy2 rfl _ (0 + 1) _ rfl HO2.out mkI oneI p2 (T.length) d B rfl HI3.out (by unfold maxLen; omega) (by omega) (by omega) ?_)
                    intro v3 w3 hown3 hgrow3
                    have HB3 := Lib.hid (HB.out.trans ((HB2.out.grown hgrow3 hz2 (fun q hq => (World.ownsRow.lt HO2.out q hq).1)).mono hz))
                    have HO3 : Hid (OwnI w3 w.heap.size v3 (lst (inS (l.take (k + 1))))) := Lib.hid (own_i (row_base hown3 hz) _ (by rw [HA2.out, HTJ.out]; have := hj.out; simp; omega) (by rw [HA2.out]; simp))
                    have HREL : Hid (RiseRel l n w v3 (.int .i64 ((k + 1 : Nat) : Int)) w3) := Lib.hid ⟨k + 1, by omega, rfl, HO3.out, HB3.out⟩
                    clear hown3 hgrow3 HO2 HI3
                    go_wp2_with fail
                    go_roundw
                    case rel => exact HREL.out
                    case measure => simp [intOf]; omega
    · have HE : Hid (l.take k = l) := Lib.hid (List.take_of_length_le (by rw [HN.out]; omega))
      have HO := Lib.hid hown
      clear hown hbe
      go_wp2_with fail
      go_ret
      exact ⟨_, rfl, by have := HO.out; rw [HE.out] at this; exact this, HB.out⟩
theorem rising_none (p : Option Addr) (c : Nat) (w : World) :
    Calls Try.prog 35 #[.slice p 0 c] w fun e w' => ∃ v', e = .returned v' ∧ OwnI w' w.heap.size v' (lst (inS [])) ∧ Below w.heap.size w w' := by
  have HV : Hid (OwnI w w.heap.size (.slice none 0 0) (lst (inS []))) := Lib.hid (by rw [inS_nil]; exact World.ownsRow_nil _ _ _ _)
  go_enter Try.func35, Try.ntmps35
  go_wp2
  refine wp_loop_rounds 1 ?_
  rw [rounds_succ]
  go_wp2
  go_ret
  exact ⟨_, rfl, HV.out, Below.refl _ _⟩
/-- Rising. -/
theorem sRising (p : Option Addr) (n c : Nat) (l : List Int) (w : World) (h : In mkI w p n c l) (hl : n ≤ 1000) :
    Calls Try.prog 35 #[.slice p n c] w fun e w' => ∃ q' m' d', e = .returned (.slice q' m' d') ∧ LstIs w' q' m' d' (inS l) ∧ Below w.heap.size w w' := by
  have main : Calls Try.prog 35 #[.slice p n c] w fun e w' => ∃ v', e = .returned v' ∧ OwnI w' w.heap.size v' (lst (inS l)) ∧ Below w.heap.size w w' := by
    obtain ⟨hn, h0 | ⟨b, off, rfl, hc, hb, hat⟩⟩ := h
    · have : l = [] := List.length_eq_zero_iff.1 (by omega)
      subst this h0
      exact rising_none p c w
    · exact rising_some l b off c n w hat hb hc hl hn.symm
  refine main.mono ?_
  rintro e w' ⟨v', rfl, hown, hb⟩
  obtain ⟨q', d', rfl, hin⟩ := in_of_row hown rfl
  exact ⟨q', _, d', rfl, ⟨hin, lst_length _⟩, hb⟩
end Go.Proofs.Ytlfnefgcndhomaa
