/-
  The walk of EditStands where stretches are left: each stands in both texts, in order.
-/
import Derived.Test.YtficgilapbmmpaaStandsH
namespace Go.Proofs.Ytficgilapbmmpaa
open Go.RowKit
set_option linter.unusedVariables false

set_option maxRecDepth 100000 in
set_option maxHeartbeats 4000000 in
theorem stands_some (s t : ByteArray) (l : List Ed) (pl : Option Addr) (cap : Nat) (w : World) (R : List Str) (hin : EditsIn w pl l.length cap l) (hm : l.length ≤ 60) (hs : s.size ≤ 2000) (ht : t.size ≤ 4000) (hby : bytes l ≤ 2000) (hR : 0 < R.length) (hR2 : R.length ≤ 100)
    (row : Row s.data.toList t.data.toList 0 0 R) (sum : total R + bytes l = t.size)
    (HF : Calls Try.prog 9 #[.slice pl l.length cap] w fun e w' => e = .returned (.bool true) ∧ w = w')
    (HA : Calls Try.prog 11 #[.string s, .slice pl l.length cap] w fun e w' => e = .returned (.tuple #[.string t, .int .i64 0]) ∧ Below w.heap.size w w')
    (HK : ∀ w1, Below w.heap.size w w1 → Calls Try.prog 19 #[.int .i64 s.size, .slice pl l.length cap] w1 fun e w' => KeptPost w1 (pairsOf R) (placesOf R) e w') :
    Calls Try.prog 6 #[.string s, .slice pl l.length cap] w fun e w' => e = .returned (.bool true) ∧ Below w.heap.size w w' := by
  have H := Lib.hid hin
  have HROW := Lib.hid (row_at _ _ R 0 0 row)
  have HSUM := Lib.hid sum
  have htot : total R ≤ 4000 := by omega
  clear hin row sum
  go_enter Try.func6, Try.ntmps6
  go_wp2_with fail
  refine HF.mono ?_
  rintro e w0 ⟨rfl, rfl⟩
  go_wp2_with fail
  refine HA.mono ?_
  rintro e w1 ⟨rfl, hb1⟩
  go_wp2_with fail
  refine (HK _ hb1).mono ?_
  rintro e w2 ⟨v1, v2, base, rfl, hb2, o1, o2⟩
  obtain ⟨g1, c1, rfl, hc1, hg1, hp⟩ := pairs_of_row o1 hR
  obtain ⟨g2, c2, rfl, hc2, hg2, hi⟩ := ints_of_row o2 hR
  have HP := Lib.hid hp
  have HI := Lib.hid hi
  have hz1 := hb1.size
  have hz2 := hb2.size
  clear HF HA HK hp hi o1 o2
  go_wp2_with (go_at_call 13; refine (no_any _ _).mono ?_; rintro e w3 ⟨rfl, rfl⟩)
  go_loopw [10, 11, 63] (fun al la i wr => ∃ j : Nat, j ≤ R.length ∧ i = .int .i64 j ∧ al = .int .i64 (total (R.take j)) ∧ la = .int .i64 (prevB 0 R j) ∧ Below w2.heap.size w2 wr) (fun _ _ i _ => R.length - (intOf i).toNat)
  case atStart => exact ⟨0, by omega, rfl, rfl, rfl, Below.refl _ _⟩
  case round =>
    obtain ⟨j, hj, rfl, rfl, rfl, rb⟩ := hrel
    have rz := rb.size
    have htj := total_take_le R j
    by_cases hlt : j < R.length
    · obtain ⟨q1, q2, q3, q4, q5, q6⟩ := HROW.out j hlt
      have k0 := (rb.cell (p := ⟨g1, j * 2, none⟩) hg1).trans (HP.out j hlt).1
      have k1 := (rb.cell (p := ⟨g1, j * 2 + 1, none⟩) hg1).trans (HP.out j hlt).2
      have k2 := (rb.cell (p := ⟨g2, j, none⟩) hg2).trans (HI.out j hlt)
      have HI2 := Lib.hid (HI.out j hlt)
      have hts := total_take R j hlt
      have HTS := Lib.hid hts
      have HPB : Hid (prevB 0 R (j + 1) = R[j].b) := Lib.hid (by show (R.getD j default).b = _; rw [getD_at R j hlt])
      rw [size_is] at q3 q5
      have hex := extract_eq s t R[j].a R[j].b R[j].t (R[j].t + (R[j].b - R[j].a)) rfl q6
      clear hts q6
      have hprev : ∀ i, j = i + 1 → ∃ A' B' b' c' : Nat, w2.cell? ⟨g1, i * 2, none⟩ = some (.int .i64 A') ∧ w2.cell? ⟨g1, i * 2 + 1, none⟩ = some (.int .i64 B') ∧ w2.cell? ⟨g2, i, none⟩ = some (.int .i64 b') ∧ (b' : Int) + B' - A' = c' ∧ c' ≤ R[j].t ∧ b' ≤ 4000 ∧ B' ≤ 4000 ∧ A' ≤ B' := by
        intro i hji
        subst hji
        have hi' : i < R.length := by omega
        obtain ⟨r1, r2, r3, r4, r5, r6⟩ := HROW.out i hi'
        have hpt : prevT 0 R (i + 1) = R[i].t + (R[i].b - R[i].a) := by show (R.getD i default).t + ((R.getD i default).b - (R.getD i default).a) = _; rw [getD_at R i hi']
        rw [hpt] at q4
        rw [size_is] at r3 r5
        exact ⟨R[i].a, R[i].b, R[i].t, R[i].t + (R[i].b - R[i].a), (HP.out i hi').1, (HP.out i hi').2, HI.out i hi', by omega, q4, by omega, by omega, by omega⟩
      have HPR := Lib.hid hprev
      clear hprev q4
      generalize prevB 0 R j = L at *
      generalize total (R.take j) = tt at *
      generalize R[j].a = A at *
      generalize R[j].b = B at *
      generalize R[j].t = bb at *
      have hcI : (bb : Int) + B - A = ((bb + (B - A) : Nat) : Int) := by omega
      have hcle : bb + (B - A) ≤ t.size := q5
      have hcb : bb ≤ bb + (B - A) := by omega
      generalize bb + (B - A) = cc at *
      have hB4 : B ≤ 4000 := by omega
      have hA4 : A ≤ 4000 := by omega
      have hb4 : bb ≤ 4000 := by omega
      have hAB : A ≤ B := by omega
      have n1 : ¬ A < L := by omega
      have n2 : ¬ B ≤ A := by omega
      have n3 : ¬ s.size < B := by omega
      have n4 : ¬ t.size < cc := by omega
      have dn1 : decide (A < L) = false := by simpa using n1
      have dn2 : decide (B ≤ A) = false := by simpa using n2
      have dn3 : decide (s.size < B) = false := by simpa using n3
      have dn4 : decide (t.size < cc) = false := by simpa using n4
      have wn1 : IntKind.i64.wrap ((bb : Int) + B) = (bb : Int) + B := IntWalk.i64_in _ (by omega)
      have wn2 : IntKind.i64.wrap (cc : Int) = (cc : Int) := IntWalk.i64_in _ (by omega)
      have dn5 : decide ((bb : Int) < 0) = false := by rw [decide_eq_false_iff_not]; omega
      have wn3 : IntKind.i64.wrap ((tt : Int) + B) = (tt : Int) + B := IntWalk.i64_in _ (by omega)
      have wn4 : IntKind.i64.wrap ((tt : Int) + B - A) = (tt : Int) + B - A := IntWalk.i64_in _ (by omega)
      have hAs : A ≤ s.size := by omega
      have hg1' : g1 < wr.heap.size := by omega
      have hg2' : g2 < wr.heap.size := by omega
      go_wp2_with fail
      go_quiet (fail)
      go_wp2_with fail
      generalize hwx : (wr.alloc (.cells #[.int .i64 A, .int .i64 B] 53)).drewN nq = wx
      have hbx : Below w2.heap.size w2 wx := by rw [← hwx]; exact below_drewN (rb.alloc rz _) _
      have x0 : wx.cell? ⟨wr.heap.size, 0, none⟩ = some (.int .i64 A) := by rw [← hwx]; show (wr.alloc (.cells #[.int .i64 A, .int .i64 B] 53)).cell? _ = _; rw [Lib.cell_of_heap (heap_alloc_new wr _)]; rfl
      have x1 : wx.cell? ⟨wr.heap.size, 1, none⟩ = some (.int .i64 B) := by rw [← hwx]; show (wr.alloc (.cells #[.int .i64 A, .int .i64 B] 53)).cell? _ = _; rw [Lib.cell_of_heap (heap_alloc_new wr _)]; rfl
      have x2 : wx.cell? ⟨g2, j, none⟩ = some (.int .i64 bb) := (hbx.cell (p := ⟨g2, j, none⟩) hg2).trans (HI2.out)
      clear hwx k0 k1 k2 dn1 dn2 dn3 dn4 dn5 n1 n2 n3 n4 q1 q2 q3 q5 hex wn1 wn2
      rcases j with _ | i
      · go_wp2_with fail
        go_quiet (fail)
        go_wp2_with fail
        go_quiet (fail)
        go_wp2_with fail
        refine ⟨⟨1, by omega, rfl, ?_, ?_, below_drewN hbx _⟩, by simp [intOf]; omega⟩
        · have h1 : total (R.take 1) = tt + (B - A) := HTS.out
          rw [h1]
          exact congrArg (Value.int .i64) (by omega)
        · have h1 : prevB 0 R 1 = B := HPB.out
          rw [h1]
      · obtain ⟨A', B', b', c', z1, z2, z3, z4, z5, z6, z7, z8⟩ := HPR.out i rfl
        have y1 := (hbx.cell (p := ⟨g1, i * 2, none⟩) hg1).trans z1
        have y2 := (hbx.cell (p := ⟨g1, i * 2 + 1, none⟩) hg1).trans z2
        have y3 := (hbx.cell (p := ⟨g2, i, none⟩) hg2).trans z3
        have wz1 : IntKind.i64.wrap ((b' : Int) + B') = (b' : Int) + B' := IntWalk.i64_in _ (by omega)
        have wz2 : IntKind.i64.wrap (c' : Int) = (c' : Int) := IntWalk.i64_in _ (by omega)
        have dz : decide (bb < c') = false := by rw [decide_eq_false_iff_not]; omega
        have hin : i < R.length := by omega
        clear z1 z2 z3
        go_wp2_with fail
        go_quiet (fail)
        go_wp2_with fail
        go_quiet (fail)
        go_wp2_with fail
        refine ⟨⟨i + 1 + 1, by omega, by go_num, ?_, ?_, below_drewN hbx _⟩, by simp [intOf]; omega⟩
        · have h1 : total (R.take (i + 1 + 1)) = tt + (B - A) := HTS.out
          rw [h1]
          exact congrArg (Value.int .i64) (by omega)
        · have h1 : prevB 0 R (i + 1 + 1) = B := HPB.out
          rw [h1]
    · have hjj : j = R.length := by omega
      have htt : total (R.take j) = total R := by rw [hjj, List.take_of_length_le (Nat.le_refl _)]
      rw [htt] at *
      clear htt
      have HROW0 := HROW
      clear HP HI HROW HROW0
      generalize prevB 0 R j = L at *
      obtain ⟨wo, rfl⟩ : ∃ wo : World, wo = wr := ⟨_, rfl⟩
      go_wp2_with fail
      go_loopw [14, 173] (fun pu i wr => ∃ k : Nat, k ≤ l.length ∧ i = .int .i64 k ∧ pu = .int .i64 (bytes (l.take k)) ∧ Below w2.heap.size w2 wr) (fun _ i _ => l.length - (intOf i).toNat)
      case atStart => exact ⟨0, by omega, rfl, rfl, rb⟩
      case round =>
        obtain ⟨k, hk, rfl, rfl, rk⟩ := hrel
        have rkz := rk.size
        have hbk := bytes_take_le l k
        by_cases hlk : k < l.length
        · have hall : Below w.heap.size w wr := (hb1.trans (hb2.mono hz1)).trans (rk.mono (by omega))
          obtain ⟨b, off, rfl, hcap, hb, hat⟩ : ∃ b off, pl = some ⟨b, off, none⟩ ∧ l.length ≤ cap ∧ b < w.heap.size ∧ EditsAt w b off l := by
            rcases H.out.2 with h0 | h0
            · omega
            · exact h0
          obtain ⟨e0, e1, e2⟩ := hat k hlk
          clear hat
          have g0 := (hall.cell (p := ⟨b, off + k * 3, none⟩) hb).trans e0
          have g1' := (hall.cell (p := ⟨b, off + k * 3 + 1, none⟩) hb).trans e1
          have g2' := (hall.cell (p := ⟨b, off + k * 3 + 2, none⟩) hb).trans e2
          have hbt := bytes_take l k hlk
          have hbk1 := bytes_take_le l (k + 1)
          rw [hbt] at hbk1
          have HBT := Lib.hid hbt
          clear e0 e1 e2 hbt hall
          generalize bytes (l.take k) = pb at *
          generalize l[k].a = ea at *
          generalize l[k].e = ee at *
          generalize l[k].t = et at *
          go_wp2_with fail
          go_roundw
          case rel => exact ⟨k + 1, by omega, by go_num, by rw [HBT.out]; go_num, rk.alloc rkz _⟩
          case measure => simp [intOf]; omega
        · have hkk : k = l.length := by omega
          have hbb : bytes (l.take k) = bytes l := by rw [hkk, List.take_of_length_le (Nat.le_refl _)]
          rw [hbb] at *
          have hsm : (total R : Int) + bytes l = t.size := by have := HSUM.out; omega
          have hsm2 : ((t.size : Int) == (total R : Int) + bytes l) = true := by rw [beq_iff_eq]; omega
          clear hbb
          go_wp2_with (go_at_call 10; refine (alive_any _).mono ?_; rintro e w4 ⟨rfl, hb4⟩)
          go_ret
          exact ⟨rfl, ((hb1.trans (hb2.mono hz1)).trans (rk.mono (by omega))).trans (hb4.mono (by omega))⟩
end Go.Proofs.Ytficgilapbmmpaa
