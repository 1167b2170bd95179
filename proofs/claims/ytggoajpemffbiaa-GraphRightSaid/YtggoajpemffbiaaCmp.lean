/-
  slices.Compact at links, walked: the function.
-/
import Derived.Test.YtggoajpemffbiaaCmc
namespace Go.Proofs.Ytggoajpemffbiaa
open Go.RowKit
set_option maxRecDepth 20000
set_option linter.unusedVariables false
set_option linter.unusedSimpArgs false

theorem compact_none (p : Option Addr) (c : Nat) (w : World) : Calls Try.prog 35 #[.slice p 0 c] w fun e w' => e = .returned (.slice p 0 c) ∧ w = w' := by
  go_enter Try.func35, Try.ntmps35
  go_wp2
  go_ret
  exact ⟨rfl, rfl⟩
def CmpPost (w : World) (g c : Nat) (l : List P2) (e : Ending) (w' : World) : Prop :=
  e = .returned (.slice (some ⟨g, 0, none⟩) (ddTo l l.length).length c) ∧ (∀ (i : Nat) (p : P2), (ddTo l l.length)[i]? = some p → w'.cell? ⟨g, i * 2, none⟩ = some (.int .i64 p.1) ∧ w'.cell? ⟨g, i * 2 + 1, none⟩ = some (.int .i64 p.2)) ∧ Wr g w w'
theorem post_all {w w' : World} {g c : Nat} {l : List P2} (h : RowP w' g l) (ha : Apart l l.length) (hw : Wr g w w') : CmpPost w g c l (.returned (.slice (some ⟨g, 0, none⟩) l.length c)) w' := by
  have e : ddTo l l.length = l := by rw [ddTo_apart (Nat.le_refl _) ha, List.take_length]
  unfold CmpPost
  rw [e]
  exact ⟨rfl, h.at_, hw⟩
/-- The row while it is made shorter. -/
structure CInv (l : List P2) (m kk : Nat) (dk : List P2) : Prop where
  len : dk.length = l.length
  is : kk = (ddTo l m).length
  low : dk.take kk = ddTo l m
  high : ∀ i, m ≤ i + 1 → dk[i]? = l[i]?
  lt : kk < m
theorem CInv.skip {l : List P2} {m kk : Nat} {dk : List P2} {x : P2} (h : CInv l (m + 1) kk dk) (h1 : l[m + 1]? = some x) (h2 : l[m]? = some x) : CInv l (m + 2) kk dk := by
  have e := ddTo_same h1 h2
  exact ⟨h.len, by rw [e]; exact h.is, by rw [e]; exact h.low, fun i hi => h.high i (by omega), by have := h.lt; omega⟩
theorem CInv.keep {l : List P2} {m kk : Nat} {dk : List P2} {x y : P2} (h : CInv l (m + 1) kk dk) (h1 : l[m + 1]? = some x) (h2 : l[m]? = some y) (hne : x ≠ y) : CInv l (m + 2) (kk + 1) (dk.set kk x) := by
  have e := ddTo_next h1 h2 hne
  have hl := h.lt
  have hm : m + 1 < l.length := (List.getElem?_eq_some_iff.1 h1).1
  have hd := h.len
  refine ⟨by rw [List.length_set]; exact h.len, by rw [e, List.length_append, ← h.is]; rfl, ?_, fun i hi => ?_, by omega⟩
  · rw [e, List.take_add_one, List.getElem?_set, if_pos rfl, if_pos (by omega), List.take_set_of_le (Nat.le_refl _), h.low]; rfl
  · rw [List.getElem?_set, if_neg (by omega)]; exact h.high i (by omega)
set_option maxHeartbeats 8000000 in
theorem compact_any (g n c : Nat) (l : List P2) (w : World) (h : RowP w g l) (hn : l.length = n) (hm : n ≤ 100) (hc : n ≤ c) :
    Calls Try.prog 35 #[.slice (some ⟨g, 0, none⟩) n c] w (CmpPost w g c l) := by
  obtain ⟨i65, hi65, hy0, hy1, hy2⟩ : ∃ i65, Try.prog.info? 57 = some i65 ∧ i65.zero = some (.agg #[.int .i64 0, .int .i64 0]) ∧ i65.size = 2 ∧ i65.bytes = 16 := by
    refine ⟨_, rfl, ?_, ?_, ?_⟩ <;> kernel_rfl
  have HR := Lib.hid h
  have HN := Lib.hid hn
  have hg := h.lt
  clear h hn
  by_cases h2 : n < 2
  · have HF : Hid (∀ w', RowP w' g l → Wr g w w' → CmpPost w g c l (.returned (.slice (some ⟨g, 0, none⟩) n c)) w') := Lib.hid fun w' hr hw => by
      have := post_all (c := c) hr (fun j x hj => by have := HN.out; omega) hw
      rwa [HN.out] at this
    go_enter Try.func35, Try.ntmps35
    go_wp2_with fail
    go_ret
    exact HF.out _ HR.out (Wr.refl _ _)
  · go_enter Try.func35, Try.ntmps35
    go_wp2_with fail
    go_loopw [3] (fun i wr => ∃ (k q : Nat), 1 ≤ k ∧ k ≤ n ∧ i = .int .i64 k ∧ wr = w.drewN q ∧ Hid (Apart l k)) (fun i _ => n - (intOf i).toNat)
    case atStart => exact ⟨1, 0, by omega, by omega, rfl, rfl, Lib.hid (fun j x hj => by omega)⟩
    case round =>
      obtain ⟨k, q, hk1, hk, rfl, hwr, HA⟩ := hrel
      have HRr : Hid (RowP wr g l) := Lib.hid (by rw [hwr]; exact HR.out.drewN q)
      have HWr : Hid (Wr g w wr) := Lib.hid (by rw [hwr]; exact Wr.drewN g w q)
      have HWQ := Lib.hid hwr
      clear hwr
      by_cases hlt : k < n
      · obtain ⟨j, hj⟩ : ∃ j, k = j + 1 := ⟨k - 1, by omega⟩
        obtain ⟨x, hx⟩ : ∃ x, l[k]? = some x := ⟨_, List.getElem?_eq_getElem (by have := HN.out; omega)⟩
        obtain ⟨y, hy⟩ : ∃ y, l[j]? = some y := ⟨_, List.getElem?_eq_getElem (by have := HN.out; omega)⟩
        obtain ⟨c0, c1⟩ := HRr.out.at_ k x hx
        obtain ⟨d0, d1⟩ := HRr.out.at_ j y hy
        have hk2 : ((k : Int) - 1) = (j : Nat) := by omega
        have r1 : (0 : Int) ≤ (k : Int) := by omega
        have r2 : (k : Int) < (n : Int) := by omega
        have r3 : (0 : Int) ≤ (j : Int) := by omega
        have r4 : (j : Int) < (n : Int) := by omega
        have hgr : g < wr.heap.size := HRr.out.lt
        have HJ := Lib.hid hj
        have HX := Lib.hid hx
        have HY := Lib.hid hy
        have he := fun W => eql65 x y W
        clear hj hx hy
        by_cases hxy : x = y
        · have HXY := Lib.hid hxy
          simp only [hxy, decide_true] at he
          subst hxy
          have HST : Hid (CInv l (k + 0 + 1) k l) := Lib.hid (by
            have e : ddTo l (k + 1) = l.take k := by
              have hj := HJ.out
              subst hj
              rw [ddTo_same HX.out HY.out]
              exact ddTo_apart (by have := HN.out; omega) HA.out
            exact ⟨rfl, by rw [Nat.add_zero, e, List.length_take]; have := HN.out; omega, by rw [Nat.add_zero, e], fun _ _ => rfl, by omega⟩)
          have HJ0 : Hid (k = j + 1) := HJ
          go_wp2_with fail
          go_quiet (fail)
          have HRq := Lib.hid (HRr.out.drewN nq)
          have HWq := Lib.hid (HWr.out.trans (Wr.drewN g wr nq))
          clear c0 c1 d0 d1 hgr he HWQ HRr HWr
          generalize wr.drewN nq = Wq at *
          obtain ⟨r, hr⟩ : ∃ r, n - k = r := ⟨_, rfl⟩
          obtain ⟨cr, hcr⟩ : ∃ cr, c - k = cr := ⟨_, rfl⟩
          have hrn : n = k + r := by omega
          have hrc : r ≤ cr := by omega
          have hr1 : 1 ≤ r := by omega
          have hr9 : r ≤ 100 := by omega
          have HRN := Lib.hid hrn
          have HCR := Lib.hid hcr
          clear hrn
          go_wp2_with fail
          clear hr hcr
          have HRW : Hid (RowP Wq g l ∧ Wr g w Wq) := Lib.hid ⟨HRq.out, HWq.out⟩
          clear HRq HWq
          go_loopw [3, 5] (fun v3 v5 wi => ∃ (kk jj : Nat) (dk : List P2), v3 = .int .i64 kk ∧ v5 = .int .i64 (jj + 1 : Nat) ∧ jj + 1 ≤ r ∧ kk ≤ k + jj ∧ Hid (CInv l (k + jj + 1) kk dk) ∧ Hid (RowP wi g dk) ∧ Hid (Wr g w wi)) (fun _ v5 _ => r - (intOf v5).toNat)
          case atStart => exact ⟨k, 0, l, rfl, rfl, by omega, by omega, HST, Lib.hid HRW.out.1, Lib.hid HRW.out.2⟩
          case round =>
            obtain ⟨kk, jj, dk, rfl, rfl, hjr, hkj, HC, HRd, HWd⟩ := hrel
            clear HST HRW
            have hdl : dk.length = n := by rw [HC.out.len]; exact HN.out
            have HDL := Lib.hid hdl
            have hgr : g < wr.heap.size := HRd.out.lt
            by_cases hlt2 : jj + 1 < r
            · obtain ⟨u, hu⟩ : ∃ u, l[k + jj + 1]? = some u := ⟨_, List.getElem?_eq_getElem (by have := HN.out; have := HRN.out; omega)⟩
              obtain ⟨v, hv⟩ : ∃ v, l[k + jj]? = some v := ⟨_, List.getElem?_eq_getElem (by have := HN.out; have := HRN.out; omega)⟩
              obtain ⟨old, ho⟩ : ∃ old, dk[kk]? = some old := ⟨_, List.getElem?_eq_getElem (by have := HRN.out; omega)⟩
              obtain ⟨e0, e1⟩ := HRd.out.at_ (k + jj + 1) u (by rw [HC.out.high _ (by omega)]; exact hu)
              obtain ⟨f0, f1⟩ := HRd.out.at_ (k + jj) v (by rw [HC.out.high _ (by omega)]; exact hv)
              obtain ⟨o0, o1⟩ := HRd.out.at_ kk old ho
              have z0 := HRd.out.fz (kk * 2) (by have := HRN.out; omega)
              have z1 := HRd.out.fz (kk * 2 + 1) (by have := HRN.out; omega)
              rw [show (k + jj + 1) * 2 = k * 2 + (jj + 1) * 2 by omega] at e0 e1
              rw [show (k + jj) * 2 = k * 2 + jj * 2 by omega] at f0 f1
              have HU := Lib.hid hu
              have HV := Lib.hid hv
              have hnq := fun W => neq65 u v W
              have hkn : kk < n := by have := HRN.out; omega
              have q1 : (((jj + 1 : Nat) : Int) - 1) = (jj : Nat) := by omega
              have q2 : (0 : Int) ≤ ((jj + 1 : Nat) : Int) := by omega
              have q3 : ((jj + 1 : Nat) : Int) < (r : Int) := by omega
              have q4 : (0 : Int) ≤ (jj : Int) := by omega
              have q5 : (jj : Int) < (r : Int) := by omega
              have q6 : (0 : Int) ≤ (kk : Int) := by omega
              have q7 : (kk : Int) < (n : Int) := by omega
              obtain ⟨j1, hj1⟩ : ∃ j1, j1 = jj + 1 := ⟨_, rfl⟩
              rw [← hj1] at e0 e1 q1 q2 q3 ⊢
              have HJ1 := Lib.hid hj1
              have hjr1 : j1 < r := by omega
              clear hu hv ho hdl hj1 hlt2 hjr hkj
              by_cases huv : u = v
              · have HC2 : Hid (CInv l (k + j1 + 1) kk dk) := Lib.hid (by
                  have := HC.out.skip HU.out (by rw [huv]; exact HV.out)
                  have e := HJ1.out
                  rw [show k + j1 + 1 = k + jj + 2 by omega]; exact this)
                simp only [huv, decide_true, Bool.not_true] at hnq
                have HLE : Hid (kk ≤ k + j1) := Lib.hid (by have := HC.out.lt; have := HJ1.out; omega)
                subst huv
                go_wp2_with fail
                go_quiet (fail)
                go_wp2_with fail
                go_roundw
                case rel => exact ⟨kk, j1, dk, rfl, by go_num, by omega, HLE.out, HC2, Lib.hid (HRd.out.drewN _), Lib.hid (HWd.out.trans (Wr.drewN g wr _))⟩
                case measure => simp [intOf]; omega
              · have HC2 : Hid (CInv l (k + j1 + 1) (kk + 1) (dk.set kk u)) := Lib.hid (by
                  have := HC.out.keep HU.out HV.out huv
                  have e := HJ1.out
                  rw [show k + j1 + 1 = k + jj + 2 by omega]; exact this)
                have HLE : Hid (kk + 1 ≤ k + j1) := Lib.hid (by have := HC.out.lt; have := HJ1.out; omega)
                simp only [huv, decide_false, Bool.not_false] at hnq
                clear huv
                go_wp2_with fail
                go_quiet (fail)
                have HRq := Lib.hid (HRd.out.drewN nq)
                have HWq := Lib.hid (HWd.out.trans (Wr.drewN g wr nq))
                have HPq : Hid (RowP (((wr.drewN nq).setCell ⟨g, kk * 2, none⟩ (.int .i64 u.1)).setCell ⟨g, kk * 2 + 1, none⟩ (.int .i64 u.2)) g (dk.set kk u)) := Lib.hid (HRq.out.put (by rw [HDL.out]; exact hkn) u)
                have HWp := Lib.hid (HWq.out.trans (wr_put (wr.drewN nq) g kk u))
                have e0' : (wr.drewN nq).cell? ⟨g, k * 2 + j1 * 2, none⟩ = some (.int .i64 u.1) := e0
                have e1' : (wr.drewN nq).cell? ⟨g, k * 2 + j1 * 2 + 1, none⟩ = some (.int .i64 u.2) := e1
                have o0' : (wr.drewN nq).cell? ⟨g, kk * 2, none⟩ = some (.int .i64 old.1) := o0
                have o1' : (wr.drewN nq).cell? ⟨g, kk * 2 + 1, none⟩ = some (.int .i64 old.2) := o1
                have z0' : (wr.drewN nq).frozen? ⟨g, kk * 2, none⟩ = false := z0
                have z1' : (wr.drewN nq).frozen? ⟨g, kk * 2 + 1, none⟩ = false := z1
                have hgr' : g < (wr.drewN nq).heap.size := hgr
                clear e0 e1 f0 f1 o0 o1 z0 z1 hgr hnq
                generalize wr.drewN nq = Wp at *
                go_wp2_with fail
                go_roundw
                case rel => exact ⟨kk + 1, j1, _, by go_num, by go_num, by omega, HLE.out, HC2, HPq, HWp⟩
                case measure => simp [intOf]; omega
            · have hjn : k + jj + 1 = n := by have := HRN.out; omega
              have HCn : Hid (CInv l n kk dk) := Lib.hid (by have := HC.out; rwa [hjn] at this)
              have hkn : kk < n := HCn.out.lt
              have q6 : (0 : Int) ≤ (kk : Int) := by omega
              have q7 : (kk : Int) ≤ (n : Int) := by omega
              have q8 : (kk : Int) ≤ (c : Int) := by omega
              have HCLR := Lib.hid fun ty => clear_row wr g kk n (c - kk) dk ty HRd.out HDL.out hkn
              obtain ⟨r2, hr2⟩ : ∃ r2, n - kk = r2 := ⟨_, rfl⟩
              obtain ⟨c2, hc2⟩ : ∃ c2, c - kk = c2 := ⟨_, rfl⟩
              rw [hr2, hc2] at HCLR
              obtain ⟨w2, hcl, hw2, hlow⟩ := HCLR.out 0
              have hcl2 : ∀ ty, (Builtin.clear_ #[63] ty #[.slice (some ⟨g, kk * 2, none⟩) r2 c2]).run Try.prog wr = .ok (.tuple #[]) w2 := fun ty => by
                obtain ⟨w3, h3, _, _⟩ := HCLR.out ty
                exact hcl
              have HPOST : Hid (CmpPost w g c l (.returned (.slice (some ⟨g, 0, none⟩) kk c)) w2) := Lib.hid (by
                unfold CmpPost
                rw [HN.out]
                refine ⟨by rw [HCn.out.is], fun i p hi => ?_, HWd.out.trans hw2⟩
                have hik : i < kk := by rw [HCn.out.is]; exact (List.getElem?_eq_some_iff.1 hi).1
                rw [← HCn.out.low, List.getElem?_take, if_pos hik] at hi
                obtain ⟨a, b⟩ := HRd.out.at_ i p hi
                exact ⟨(hlow _ (by omega)).trans a, (hlow _ (by omega)).trans b⟩)
              clear hjn hcl hw2 hlow hdl
              go_wp2_with fail
              go_ret
              exact HPOST.out
        · simp only [hxy, decide_false] at he
          have HA2 : Hid (Apart l (k + 1)) := Lib.hid fun i z hi hz => by
            by_cases h : i = j
            · subst h
              rw [show i + 1 = k by have := HJ.out; omega, HX.out] at hz
              cases hz
              rw [HY.out]; intro e; cases e; exact hxy rfl
            · exact HA.out i z (by have := HJ.out; omega) hz
          clear hxy
          go_wp2_with fail
          go_quiet (fail)
          go_wp2_with fail
          go_roundw
          case rel => exact ⟨k + 1, q + nq, by omega, by omega, by go_num, by rw [HWQ.out, World.drewN_drewN], HA2⟩
          case measure => simp [intOf]; omega
      · have hkn : k = n := by omega
        have HF : Hid (CmpPost w g c l (.returned (.slice (some ⟨g, 0, none⟩) n c)) wr) := Lib.hid (by
          have := post_all (c := c) HRr.out (by rw [HN.out, ← hkn]; exact HA.out) HWr.out
          rwa [HN.out] at this)
        clear hkn
        go_wp2_with fail
        go_ret
        exact HF.out
end Go.Proofs.Ytggoajpemffbiaa
