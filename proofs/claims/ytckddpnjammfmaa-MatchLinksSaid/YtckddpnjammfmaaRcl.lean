/-
  The document's least numbers of classes (Class), walked.
-/
import Derived.Test.YtckddpnjammfmaaCls
import Derived.BigQuiet
import Derived.BigRegion
namespace Go.Proofs.Ytckddpnjammfmaa
open Go.RowKit
set_option maxRecDepth 20000
set_option linter.unusedVariables false
set_option linter.unusedSimpArgs false

theorem low_upd {n : Nat} {f : Nat → Nat} {p : P2} {a b m : Nat} (hin : inR n p = true) (ha : p.1 = (a : Int)) (hb : p.2 = (b : Int)) (hm : m = min (f a) (f b)) : updF (updF f a m) b m = low n f p := by
  funext x
  unfold low
  rw [hin, ha, hb]
  simp only [Int.toNat_natCast, cond_true, updF, ← hm]
  by_cases h1 : x = b
  · subst h1; simp
  · rw [if_neg h1]
    by_cases h2 : x = a
    · subst h2; simp
    · rw [if_neg h2, if_neg (by simp [h1, h2])]
theorem low_no {n : Nat} {f : Nat → Nat} {p : P2} (hin : ¬ inR n p = true) : low n f p = f := by simp [low, hin]
theorem lowAll_snoc (n : Nat) (l : List P2) (p : P2) (f : Nat → Nat) : lowAll n (l ++ [p]) f = low n (lowAll n l f) p := by simp [lowAll]

theorem refClass_neg (n : Int) (q : Option Addr) (m c : Nat) (w : World) (hn : n < 0) :
    Calls Try.prog 18 #[.int .i64 n, .slice q m c] w fun e w' => e = .returned (.slice none 0 0) ∧ w = w' := by
  have h1 : ¬ (0 : Int) < n := by omega
  have h2 : ¬ (0 : Int) ≤ n := by omega
  go_enter Try.func18, Try.ntmps18
  go_wp2_with fail
  refine wp_loop_rounds 1 ?_
  rw [rounds_succ]
  go_wp2_with fail
  refine wp_loop_rounds 1 ?_
  rw [rounds_succ]
  go_wp2_with fail
  go_ret
  exact ⟨rfl, rfl⟩
set_option maxHeartbeats 8000000 in
theorem refClass_any (n : Nat) (q : Option Addr) (m c : Nat) (l : List P2) (w : World) (h : PS w q m c l) (hm : m ≤ 60) (hn : n ≤ 60) :
    Calls Try.prog 18 #[.int .i64 n, .slice q m c] w fun e w' => ∃ v, e = .returned v ∧ OwnI w' w.heap.size v (rowF n (lows n l (n + 1))) ∧ Below w.heap.size w w' := by
  obtain ⟨i3, hi3, hz0, hz1, hz2⟩ := info_parts info3
  have HP := Lib.hid h
  obtain ⟨hml, _⟩ := h
  have HML := Lib.hid hml
  clear hml
  go_enter Try.func18, Try.ntmps18
  go_wp2_with fail
  go_loopw [5, 6] (fun v i wr => ∃ (k : Nat), k ≤ n ∧ i = .int .i64 k ∧ Hid (OwnI wr w.heap.size v (rowF k id)) ∧ Hid (Below w.heap.size w wr)) (fun _ i _ => n - (intOf i).toNat)
  case atStart => exact ⟨0, by omega, rfl, Lib.hid (OwnI.nil _ _), Lib.hid (Below.refl _ _)⟩
  case round =>
    obtain ⟨k, hk, rfl, HO, HB⟩ := hrel
    by_cases hlt : k < n
    · have hrow := HO.out
      unfold OwnI at hrow
      rw [rowF_len] at hrow
      have hbz := HB.out.size
      have hlv : ((rowF k id).map (Value.int .i64)).length = k := by simp [rowF_len]
      go_wp2_with (first
        | (at_builtin; refine wpList_append_own _ rfl _ _ 40 rfl w.heap.size 3 i3 (.int .i64 0) 1 8 Try.underlying40 hi3 hz0 hz1 hz2 rfl (by omega) _ _ _ rfl (World.ownsRow.alloc hrow _) ⟨wr.heap.size, 0, none⟩ 1 1 [.int .i64 (k : Nat)] rfl rfl (one_new _ _ _) (one_cell _ _) (by unfold maxLen; omega) (by omega) (by simp; omega) ?_; intro v' w1 hown hgrow _; have HO2 : Hid (OwnI w1 w.heap.size v' (rowF (k + 1) id)) := Lib.hid (by rw [rowF_snoc]; refine OwnI.snoc ?_; rw [rowF_len]; exact hown); have HB2 := Lib.hid ((HB.out.alloc hbz _).grown hgrow (by simp; omega) (fun j hj => (World.ownsRow.lt hrow j hj).1)); clear hown hgrow)
        | go_in)
      go_roundw
      case rel => exact ⟨k + 1, by omega, by go_num, HO2, HB2⟩
      case measure => simp [intOf]; omega
    · have hkn : k = n := by omega
      have HO2 : Hid (OwnI wr w.heap.size u5 (rowF n id)) := Lib.hid (by have := HO.out; rwa [hkn] at this)
      have HBW := Lib.hid HB.out
      clear hkn HO HB
      go_wp2_with fail
      obtain ⟨wo, hwo⟩ : ∃ wo : World, wo = wr := ⟨_, rfl⟩
      subst hwo
      go_loopw [7] (fun i wi => ∃ (k : Nat), k ≤ n + 1 ∧ i = .int .i64 k ∧ Hid (OwnI wi w.heap.size u5 (rowF n (lows n l k))) ∧ Hid (Below w.heap.size w wi)) (fun i _ => n + 1 - (intOf i).toNat)
      case atStart => exact ⟨0, by omega, rfl, HO2, HBW⟩
      case round =>
        obtain ⟨j, hj, rfl, HO, HB⟩ := hrel
        clear HO2 HBW
        by_cases hlt2 : j ≤ n
        · obtain ⟨wp, hwp⟩ : ∃ wp : World, wp = wr := ⟨_, rfl⟩
          subst hwp
          go_wp2_with fail
          go_loopw [8] (fun i wi => ∃ (k : Nat), k ≤ m ∧ i = .int .i64 k ∧ Hid (OwnI wi w.heap.size u5 (rowF n (lowAll n (l.take k) (lows n l j)))) ∧ Hid (Below w.heap.size w wi)) (fun i _ => m - (intOf i).toNat)
          case atStart => exact ⟨0, by omega, rfl, HO, HB⟩
          case round =>
            obtain ⟨k2, hk2, rfl, HO3, HB3⟩ := hrel
            clear HO HB
            by_cases hlt3 : k2 < m
            · obtain ⟨hmm, h0 | ⟨gb, o, rfl, hcb, hgb, hat⟩⟩ := HP.out
              · omega
              clear hmm
              obtain ⟨p, hp⟩ : ∃ p, l[k2]? = some p := ⟨_, List.getElem?_eq_getElem (by have := HML.out; omega)⟩
              obtain ⟨v0, v1⟩ := hat k2 p hp
              rw [← HB3.out.cell (p := ⟨gb, _, none⟩) hgb] at v0 v1
              have hbz := HB3.out.size
              have hgb2 : gb < wr.heap.size := by omega
              have s1 : (0 : Int) ≤ (k2 : Int) := by omega
              have s2 : (k2 : Int) < (m : Int) := by omega
              have HTK : Hid (lowAll n (l.take (k2 + 1)) (lows n l j) = low n (lowAll n (l.take k2) (lows n l j)) p) := Lib.hid (by rw [take_snoc hp, lowAll_snoc])
              clear hp hat
              generalize lowAll n (l.take k2) (lows n l j) = f at *
              obtain ⟨f2, hf2⟩ : ∃ f2, f2 = lowAll n (l.take (k2 + 1)) (lows n l j) := ⟨_, rfl⟩
              rw [← hf2] at HTK
              have HF2E := Lib.hid hf2
              clear hf2
              by_cases hin : inR n p = true
              · obtain ⟨i0, i1, i2, i3'⟩ := (inR_iff n p).1 hin
                obtain ⟨a, ha⟩ : ∃ a : Nat, p.1 = a := ⟨p.1.toNat, by omega⟩
                obtain ⟨b, hb⟩ : ∃ b : Nat, p.2 = b := ⟨p.2.toNat, by omega⟩
                have ha1 : a < n := by omega
                have hb1 : b < n := by omega
                have HUP := fun mm hmm => low_upd (m := mm) (f := f) hin ha hb hmm
                rw [ha] at v0 i0 i1
                rw [hb] at v1 i2 i3'
                rcases HO3.out.slice with ⟨hv, hnil⟩ | ⟨g, cg, hv, hg0, hg1, hg2⟩
                · have := congrArg List.length hnil; rw [rowF_len] at this; simp at this; omega
                subst hv
                rw [rowF_len] at HO3 ⊢
                have HUP2 : Hid (∀ mm, mm = min (f a) (f b) → f2 = updF (updF f a mm) b mm) := Lib.hid fun mm hmm => by rw [HTK.out]; exact (HUP mm hmm).symm
                clear hin ha hb HUP HTK
                go_wp2_with fail
                go_quiet (fail)
                have HOq := Lib.hid (HO3.out.step (below_drewN (Below.refl _ _) nq))
                have HBq := Lib.hid (below_drewN HB3.out nq)
                clear v0 v1 hgb2 HO3 HB3
                generalize wr.drewN nq = W at *
                have c0 := HOq.out.cell a _ (rowF_get n f a ha1)
                have c1 := HOq.out.cell b _ (rowF_get n f b hb1)
                obtain ⟨fa, hfa⟩ : ∃ fa, f a = fa := ⟨_, rfl⟩
                obtain ⟨fb, hfb⟩ : ∃ fb, f b = fb := ⟨_, rfl⟩
                rw [hfa] at c0
                rw [hfb] at c1
                have HFAB := Lib.hid (And.intro hfa hfb)
                clear hfa hfb
                have r1 : (0 : Int) ≤ (a : Int) := by omega
                have r3 : (0 : Int) ≤ (b : Int) := by omega
                have HSET : Hid (∀ mm, mm = min fa fb → OwnI ((W.setCell ⟨g, a, none⟩ (.int .i64 (mm : Nat))).setCell ⟨g, b, none⟩ (.int .i64 (mm : Nat))) w.heap.size (.slice (some ⟨g, 0, none⟩) n cg) (rowF n f2)) := Lib.hid fun mm hmm => by
                  rw [HUP2.out mm (by rw [hmm, HFAB.out.1, HFAB.out.2]), ← rowF_set, ← rowF_set]
                  exact (HOq.out.put a _).put b _
                have HCB : Hid (∀ mm : Nat, ∃ cb, (W.setCell ⟨g, a, none⟩ (.int .i64 (mm : Nat))).cell? ⟨g, b, none⟩ = some cb) := Lib.hid fun mm => ⟨_, (HOq.out.put a (mm : Nat)).cell b _ (by rw [rowF_set]; exact rowF_get n _ b hb1)⟩
                have fz := HOq.out.frozen
                have HFZ : Hid (∀ (mm : Nat) j, (W.setCell ⟨g, a, none⟩ (.int .i64 (mm : Nat))).frozen? ⟨g, j, none⟩ = false) := Lib.hid fun mm j => (HOq.out.put a (mm : Nat)).frozen j
                rcases Nat.lt_trichotomy fa fb with hab | hab | hab
                · have hab2 : ¬ fb < fa := by omega
                  obtain ⟨cb, hcb'⟩ := HCB.out fa
                  have fz2 := HFZ.out fa
                  have HFIN := Lib.hid (HSET.out fa (by omega))
                  have HBF := Lib.hid ((HBq.out.setCell (p := ⟨g, a, none⟩) hg0 (.int .i64 (fa : Nat))).setCell (p := ⟨g, b, none⟩) hg0 (.int .i64 (fa : Nat)))
                  go_wp2_with fail
                  go_region
                  go_wp2_with fail
                  go_roundw
                  case rel => exact ⟨k2 + 1, by omega, by go_num, Lib.hid (by rw [← HF2E.out]; exact HFIN.out), Lib.hid HBF.out.drew⟩
                  case measure => simp [intOf]; omega
                · subst hab
                  have hab2 : ¬ fa < fa := by omega
                  obtain ⟨cb, hcb'⟩ := HCB.out fa
                  have fz2 := HFZ.out fa
                  have HFIN := Lib.hid (HSET.out fa (by omega))
                  have HBF := Lib.hid ((HBq.out.setCell (p := ⟨g, a, none⟩) hg0 (.int .i64 (fa : Nat))).setCell (p := ⟨g, b, none⟩) hg0 (.int .i64 (fa : Nat)))
                  go_wp2_with fail
                  go_region
                  go_wp2_with fail
                  go_roundw
                  case rel => exact ⟨k2 + 1, by omega, by go_num, Lib.hid (by rw [← HF2E.out]; exact HFIN.out), Lib.hid HBF.out.drew⟩
                  case measure => simp [intOf]; omega
                · have hab2 : ¬ fa < fb := by omega
                  obtain ⟨cb, hcb'⟩ := HCB.out fb
                  have fz2 := HFZ.out fb
                  have HFIN := Lib.hid (HSET.out fb (by omega))
                  have HBF := Lib.hid ((HBq.out.setCell (p := ⟨g, a, none⟩) hg0 (.int .i64 (fb : Nat))).setCell (p := ⟨g, b, none⟩) hg0 (.int .i64 (fb : Nat)))
                  go_wp2_with fail
                  go_region
                  go_wp2_with fail
                  go_roundw
                  case rel => exact ⟨k2 + 1, by omega, by go_num, Lib.hid (by rw [← HF2E.out]; exact HFIN.out), Lib.hid HBF.out.drew⟩
                  case measure => simp [intOf]; omega
              · have HO4 : Hid (OwnI wr w.heap.size u5 (rowF n f2)) := Lib.hid (by rw [HTK.out, low_no hin]; exact HO3.out)
                obtain ⟨pa, pb⟩ := p
                have hno : ¬ (0 ≤ pa ∧ pa < n ∧ 0 ≤ pb ∧ pb < n) := fun e => hin ((inR_iff n (pa, pb)).2 e)
                simp only at v0 v1
                clear hin HTK
                by_cases h1 : pa < 0
                · clear hno
                  go_wp2_with fail
                  go_quiet (fail)
                  go_wp2_with fail
                  go_roundw
                  case rel => exact ⟨k2 + 1, by omega, by go_num, Lib.hid (by rw [← HF2E.out]; exact HO4.out.step (below_drewN (Below.refl _ _) _)), Lib.hid (below_drewN HB3.out _)⟩
                  case measure => simp [intOf]; omega
                · by_cases h2 : pb < 0
                  · clear hno
                    go_wp2_with fail
                    go_quiet (fail)
                    go_wp2_with fail
                    go_roundw
                    case rel => exact ⟨k2 + 1, by omega, by go_num, Lib.hid (by rw [← HF2E.out]; exact HO4.out.step (below_drewN (Below.refl _ _) _)), Lib.hid (below_drewN HB3.out _)⟩
                    case measure => simp [intOf]; omega
                  · by_cases h3 : (n : Int) ≤ pa
                    · clear hno
                      go_wp2_with fail
                      go_quiet (fail)
                      go_wp2_with fail
                      go_roundw
                      case rel => exact ⟨k2 + 1, by omega, by go_num, Lib.hid (by rw [← HF2E.out]; exact HO4.out.step (below_drewN (Below.refl _ _) _)), Lib.hid (below_drewN HB3.out _)⟩
                      case measure => simp [intOf]; omega
                    · have h4 : (n : Int) ≤ pb := by omega
                      clear hno
                      go_wp2_with fail
                      go_quiet (fail)
                      go_wp2_with fail
                      go_roundw
                      case rel => exact ⟨k2 + 1, by omega, by go_num, Lib.hid (by rw [← HF2E.out]; exact HO4.out.step (below_drewN (Below.refl _ _) _)), Lib.hid (below_drewN HB3.out _)⟩
                      case measure => simp [intOf]; omega
            · have hkm : k2 = m := by omega
              have HO4 : Hid (OwnI wr w.heap.size u5 (rowF n (lows n l (j + 1)))) := Lib.hid (by have := HO3.out; rw [hkm, HML.out, List.take_length] at this; exact this)
              clear hkm
              go_wp2_with fail
              go_roundw
              case rel => exact ⟨j + 1, by omega, by go_num, HO4, HB3⟩
              case measure => simp [intOf]; omega
        · have hjn : j = n + 1 := by omega
          have HF : Hid (OwnI wr w.heap.size u5 (rowF n (lows n l (n + 1)))) := Lib.hid (by have := HO.out; rwa [hjn] at this)
          clear hjn
          go_wp2_with fail
          go_ret
          exact ⟨_, rfl, HF.out, HB.out⟩
end Go.Proofs.Ytckddpnjammfmaa
