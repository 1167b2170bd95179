/-
  The law GraphMaps, walked.
-/
import Derived.Test.YtggoajpemffbiaaApi
namespace Go.Proofs.Ytggoajpemffbiaa
open Go.RowKit
set_option maxRecDepth 20000
set_option linter.unusedVariables false
set_option linter.unusedSimpArgs false

theorem ints_same (p q : Option Addr) (n m c d : Nat) (l : List Int) (w : World) (hp : IS w p n c l) (hq : IS w q m d l) (hn : n ≤ 1000) :
    Calls Try.prog 11 #[.slice p n c, .slice q m d] w fun e w' => e = .returned (.bool true) ∧ Below w.heap.size w w' :=
  (ints_any p q n m c d l l w hp hq hn).mono fun e w' h => ⟨by rw [h.1]; simp, h.2⟩
def MapsPost (w : World) (e : Ending) (w' : World) : Prop := e = .returned (.bool true) ∧ Below w.heap.size w w'
set_option maxHeartbeats 8000000 in
theorem maps_far (q : Option Addr) (n c : Nat) (q2 : Option Addr) (n2 c2 : Nat) (N : Int) (w : World) (hN : 16777216 < N) (hn : n ≤ 100) :
    Calls Try.prog 4 #[.slice q n c, .slice q2 n2 c2, .int .i64 N] w (MapsPost w) := by
  have HA := Lib.hid (alive_any w)
  have HN := Lib.hid (new_big N q n c w hN)
  go_enter Try.func4, Try.ntmps4
  go_wp2_with (first
    | (go_at_call 14; refine HN.out.mono ?_; rintro e w1 ⟨rfl, rfl⟩)
    | (go_at_call 8; refine HA.out.mono ?_; rintro e w2 ⟨rfl, hb⟩; have HB := Lib.hid hb; clear hb))
  go_ret
  exact ⟨rfl, HB.out⟩
set_option maxHeartbeats 8000000 in
theorem maps_big (q : Option Addr) (n c : Nat) (q2 : Option Addr) (n2 c2 : Nat) (N : Int) (w : World) (h1 : ¬ (16777216 < N ∧ n ≤ 100)) (h2 : 100 < n ∨ 100 < n2 ∨ 200 < N) :
    Calls Try.prog 4 #[.slice q n c, .slice q2 n2 c2, .int .i64 N] w (MapsPost w) := by
  have HA := Lib.hid (alive_any w)
  by_cases hN : 16777216 < N
  · have hn : 100 < n := by omega
    clear h1 h2
    go_enter Try.func4, Try.ntmps4
    go_wp2_with (go_at_call 8; refine HA.out.mono ?_; rintro e w2 ⟨rfl, hb⟩; have HB := Lib.hid hb; clear hb)
    go_ret
    exact ⟨rfl, HB.out⟩
  · by_cases hn : 100 < n
    · clear h1 h2
      go_enter Try.func4, Try.ntmps4
      go_wp2_with (go_at_call 8; refine HA.out.mono ?_; rintro e w2 ⟨rfl, hb⟩; have HB := Lib.hid hb; clear hb)
      go_ret
      exact ⟨rfl, HB.out⟩
    · by_cases hn2 : 100 < n2
      · clear h1 h2
        go_enter Try.func4, Try.ntmps4
        go_wp2_with (go_at_call 8; refine HA.out.mono ?_; rintro e w2 ⟨rfl, hb⟩; have HB := Lib.hid hb; clear hb)
        go_ret
        exact ⟨rfl, HB.out⟩
      · have hN2 : 200 < N := by omega
        clear h1 h2
        go_enter Try.func4, Try.ntmps4
        go_wp2_with (go_at_call 8; refine HA.out.mono ?_; rintro e w2 ⟨rfl, hb⟩; have HB := Lib.hid hb; clear hb)
        go_ret
        exact ⟨rfl, HB.out⟩
set_option maxHeartbeats 16000000 in
theorem maps_small (q : Option Addr) (n c : Nat) (m : List Int) (q2 : Option Addr) (n2 c2 : Nat) (k : List Int) (N : Int) (w : World) (hm : IS w q n c m) (hk : IS w q2 n2 c2 k) (hwm : ∀ x ∈ m, W64 x) (hN0 : W64 N) (hn : n ≤ 100) (hn2 : n2 ≤ 100) (hN : N ≤ 200) :
    Calls Try.prog 4 #[.slice q n c, .slice q2 n2 c2, .int .i64 N] w (MapsPost w) := by
  obtain ⟨i3, hi3, hz0, hz1, hz2⟩ := info_parts info3
  have HM := Lib.hid hm
  have HK := Lib.hid hk
  have HLM := Lib.hid hm.1
  have HLK := Lib.hid hk.1
  have HWM := Lib.hid hwm
  have HN0 := Lib.hid hN0
  have hN1 : ¬ 16777216 < N := by omega
  clear hm hk hwm hN0
  go_enter Try.func4, Try.ntmps4
  go_wp2_with fail
  go_loopw [7, 44] (fun v i wr => ∃ j : Nat, j ≤ n ∧ i = .int .i64 j ∧ Hid (OwnI wr w.heap.size v ((m.take j).map (thAt k))) ∧ Hid (Below w.heap.size w wr)) (fun _ i _ => n - (intOf i).toNat)
  case atStart => exact ⟨0, by omega, rfl, Lib.hid (OwnI.nil _ _), Lib.hid (Below.refl _ _)⟩
  case round =>
    obtain ⟨j, hj, rfl, HO, HB⟩ := hrel
    by_cases hlt : j < n
    · obtain ⟨hxx, h0 | ⟨gm, om, rfl, hcm, hgm, hatm⟩⟩ := HM.out
      · omega
      clear hxx
      obtain ⟨x, hx⟩ : ∃ x, m[j]? = some x := ⟨_, List.getElem?_eq_getElem (by have := HLM.out; omega)⟩
      have c0 := (HB.out.cell (p := ⟨gm, om + j, none⟩) hgm).trans (hatm j x hx)
      have hgm2 : gm < wr.heap.size := Nat.lt_of_lt_of_le hgm HB.out.size
      have r1 : (0 : Int) ≤ (j : Int) := by omega
      have r2 : (j : Int) < (n : Int) := by omega
      have HTK := Lib.hid (take_snoc hx)
      have HLN : Hid (((m.take j).map (thAt k)).length ≤ 100) := Lib.hid (by simp; omega)
      have hbz := HB.out.size
      have HOA : Hid (∀ y : Int, (wr.alloc (.cells #[.int .i64 y] 3)).ownsRow w.heap.size 3 1 u7 ((m.take j).map (thAt k)).length (((m.take j).map (thAt k)).map (Value.int .i64))) := Lib.hid fun y => World.ownsRow.alloc HO.out _
      clear hx hatm
      by_cases h1 : 0 ≤ x
      · by_cases h2 : x < (n2 : Int)
        · obtain ⟨hxx, h0 | ⟨gk, ok, rfl, hck, hgk, hatk⟩⟩ := HK.out
          · omega
          clear hxx
          obtain ⟨i, rfl⟩ : ∃ i : Nat, x = (i : Int) := ⟨x.toNat, by omega⟩
          obtain ⟨y, hy⟩ : ∃ y, k[i]? = some y := ⟨_, List.getElem?_eq_getElem (by have := HLK.out; omega)⟩
          have ck := (HB.out.cell (p := ⟨gk, ok + i, none⟩) hgk).trans (hatk i y hy)
          have HT : Hid ((m.take (j + 1)).map (thAt k) = (m.take j).map (thAt k) ++ [y]) := Lib.hid (by rw [HTK.out, List.map_append]; simp [thAt_in hy])
          clear hy hatk
          go_wp2_with (at_builtin; refine wpList_append_own _ rfl _ _ 22 rfl w.heap.size 3 i3 (.int .i64 0) 1 8 Try.underlying22 hi3 hz0 hz1 hz2 rfl (by omega) _ _ _ rfl (HOA.out y) ⟨wr.heap.size, 0, none⟩ 1 1 [.int .i64 y] rfl rfl (one_new _ _ _) (one_cell _ _) (by have := HLN.out; unfold maxLen; omega) (by have := HLN.out; omega) (by simp; omega) ?_; intro v' w2 hown hgrow hnil; have HO2 : Hid (OwnI w2 w.heap.size v' ((m.take (j + 1)).map (thAt k))) := Lib.hid (by rw [HT.out]; exact OwnI.snoc hown); have HB2 := Lib.hid ((HB.out.alloc hbz _).grown hgrow (by simp; omega) (fun j hj => (World.ownsRow.lt (HOA.out y) j hj).1)); clear hown hgrow hnil)
          go_roundw
          case rel => exact ⟨j + 1, by omega, by go_num, HO2, HB2⟩
          case measure => simp [intOf]; omega
        · have HT : Hid ((m.take (j + 1)).map (thAt k) = (m.take j).map (thAt k) ++ [-1]) := Lib.hid (by rw [HTK.out, List.map_append]; simp [thAt_out (k := k) (x := x) (by have := HLK.out; omega)])
          go_wp2_with (at_builtin; refine wpList_append_own _ rfl _ _ 22 rfl w.heap.size 3 i3 (.int .i64 0) 1 8 Try.underlying22 hi3 hz0 hz1 hz2 rfl (by omega) _ _ _ rfl (HOA.out (-1)) ⟨wr.heap.size, 0, none⟩ 1 1 [.int .i64 (-1)] rfl rfl (one_new _ _ _) (one_cell _ _) (by have := HLN.out; unfold maxLen; omega) (by have := HLN.out; omega) (by simp; omega) ?_; intro v' w2 hown hgrow hnil; have HO2 : Hid (OwnI w2 w.heap.size v' ((m.take (j + 1)).map (thAt k))) := Lib.hid (by rw [HT.out]; exact OwnI.snoc hown); have HB2 := Lib.hid ((HB.out.alloc hbz _).grown hgrow (by simp; omega) (fun j hj => (World.ownsRow.lt (HOA.out (-1)) j hj).1)); clear hown hgrow hnil)
          go_roundw
          case rel => exact ⟨j + 1, by omega, by go_num, HO2, HB2⟩
          case measure => simp [intOf]; omega
      · have HT : Hid ((m.take (j + 1)).map (thAt k) = (m.take j).map (thAt k) ++ [-1]) := Lib.hid (by rw [HTK.out, List.map_append]; simp [thAt_out (k := k) (x := x) (by omega)])
        go_wp2_with (at_builtin; refine wpList_append_own _ rfl _ _ 22 rfl w.heap.size 3 i3 (.int .i64 0) 1 8 Try.underlying22 hi3 hz0 hz1 hz2 rfl (by omega) _ _ _ rfl (HOA.out (-1)) ⟨wr.heap.size, 0, none⟩ 1 1 [.int .i64 (-1)] rfl rfl (one_new _ _ _) (one_cell _ _) (by have := HLN.out; unfold maxLen; omega) (by have := HLN.out; omega) (by simp; omega) ?_; intro v' w2 hown hgrow hnil; have HO2 : Hid (OwnI w2 w.heap.size v' ((m.take (j + 1)).map (thAt k))) := Lib.hid (by rw [HT.out]; exact OwnI.snoc hown); have HB2 := Lib.hid ((HB.out.alloc hbz _).grown hgrow (by simp; omega) (fun j hj => (World.ownsRow.lt (HOA.out (-1)) j hj).1)); clear hown hgrow hnil)
        go_roundw
        case rel => exact ⟨j + 1, by omega, by go_num, HO2, HB2⟩
        case measure => simp [intOf]; omega
    · have hjn : j = n := by omega
      have HOF : Hid (OwnI wr w.heap.size u7 (m.map (thAt k))) := Lib.hid (by have := HO.out; rwa [hjn, HLM.out, List.take_length] at this)
      clear hjn
      go_wp2_with fail
      obtain ⟨wo, hwo⟩ : ∃ wo, wo = wr := ⟨_, rfl⟩
      subst hwo
      obtain ⟨NN, hNN⟩ : ∃ NN : Nat, NN = N.toNat := ⟨_, rfl⟩
      have HNN : Hid (N = NN ∨ (N < 0 ∧ NN = 0)) := Lib.hid (by omega)
      have hNN2 : NN ≤ 200 := by omega
      clear hNN
      go_loopw [8, 12] (fun v i wr => ∃ j : Nat, j ≤ NN ∧ i = .int .i64 j ∧ Hid (OwnI wr wo.heap.size v (restN m j)) ∧ Hid (Below wo.heap.size wo wr)) (fun _ i _ => NN - (intOf i).toNat)
      case atStart => exact ⟨0, by omega, rfl, Lib.hid (by have : restN m 0 = [] := rfl; rw [this]; exact OwnI.nil _ _), Lib.hid (Below.refl _ _)⟩
      case round =>
        obtain ⟨j, hj, rfl, HR, HBo⟩ := hrel
        clear HO
        have HBr := Lib.hid (HB.out.trans (HBo.out.mono HB.out.size))
        by_cases hlt : j < NN
        · have hltN : (j : Int) < N := by rcases HNN.out with h | h <;> omega
          have HIN := Lib.hid (in_any q n c m (j : Int) wr (HM.out.step HBr.out) (by omega))
          have hbz := HBo.out.size
          cases hin : inI m (j : Int) with
          | true =>
            have HR2 : Hid (OwnI wr wo.heap.size u8 (restN m (j + 1))) := Lib.hid (by
              have e : restN m (j + 1) = restN m j := by unfold restN; rw [selN_succ, hin]; simp
              rw [e]; exact HR.out)
            rw [hin] at HIN
            clear hin
            go_wp2_with (go_at_call 15; refine HIN.out.mono ?_; rintro e w2 ⟨rfl, rfl⟩)
            go_roundw
            case rel => exact ⟨j + 1, by omega, by go_num, HR2, HBo⟩
            case measure => simp [intOf]; omega
          | false =>
            have HT : Hid (restN m (j + 1) = restN m j ++ [(j : Int)]) := Lib.hid (by unfold restN; rw [selN_succ, hin]; rfl)
            have HLN : Hid ((restN m j).length ≤ 200) := Lib.hid (by have := selN_len (fun i => !inI m (i : Int)) j; unfold restN; omega)
            have HOA : Hid ((wr.alloc (.cells #[.int .i64 j] 3)).ownsRow wo.heap.size 3 1 u8 (restN m j).length ((restN m j).map (Value.int .i64))) := Lib.hid (World.ownsRow.alloc HR.out _)
            rw [hin] at HIN
            clear hin
            go_wp2_with (first
              | (go_at_call 15; refine HIN.out.mono ?_; rintro e w2 ⟨rfl, rfl⟩)
              | (at_builtin; refine wpList_append_own _ rfl _ _ 22 rfl wo.heap.size 3 i3 (.int .i64 0) 1 8 Try.underlying22 hi3 hz0 hz1 hz2 rfl (by omega) _ _ _ rfl HOA.out ⟨wr.heap.size, 0, none⟩ 1 1 [.int .i64 j] rfl rfl (one_new _ _ _) (one_cell _ _) (by have := HLN.out; unfold maxLen; omega) (by have := HLN.out; omega) (by simp; omega) ?_; intro v' w2 hown hgrow hnil; have HO2 : Hid (OwnI w2 wo.heap.size v' (restN m (j + 1))) := Lib.hid (by rw [HT.out]; exact OwnI.snoc hown); have HB2 := Lib.hid ((HBo.out.alloc hbz _).grown hgrow (by simp; omega) (fun j hj => (World.ownsRow.lt HOA.out j hj).1)); clear hown hgrow hnil))
            go_roundw
            case rel => exact ⟨j + 1, by omega, by go_num, HO2, HB2⟩
            case measure => simp [intOf]; omega
        · have hjn : j = NN := by omega
          have hltN : ¬ (j : Int) < N := by rcases HNN.out with h | h <;> omega
          obtain ⟨q8, n8, c8, rfl, his8⟩ : ∃ q n c, u8 = .slice q n c ∧ IS wr q n c (restN m NN) := by
            have := HR.out; rw [hjn] at this; exact this.is
          obtain ⟨q7, n7, c7, rfl, his7⟩ : ∃ q n c, u7 = .slice q n c ∧ IS wr q n c (m.map (thAt k)) := (HOF.out.step HBo.out).is
          have H7 := Lib.hid his7
          have H8 := Lib.hid his8
          have HMr := Lib.hid (HM.out.step HBr.out)
          have HKr := Lib.hid (HK.out.step HBr.out)
          have hbz := HBr.out.size
          have HOL : Hid ((wr.alloc (.cells #[] 3)).ownsRow wr.heap.size 3 1 (.slice (some ⟨wr.heap.size, 0, none⟩) 0 0) 0 []) := Lib.hid (World.ownsRow_lit wr #[] 0 (Nat.le_refl _) (by unfold maxLen; omega) rfl)
          have hba : Below wr.heap.size wr (wr.alloc (.cells #[] 3)) := (Below.refl _ _).alloc (Nat.le_refl _) _
          have HBA := Lib.hid hba
          have HMA := Lib.hid (HMr.out.step hba)
          clear his7 his8 hjn HR HOF hba
          go_wp2_with (at_builtin; refine wpList_append_is _ rfl _ _ 22 rfl wr.heap.size 3 i3 (.int .i64 0) 8 Try.underlying22 hi3 hz0 hz1 hz2 rfl _ 0 _ rfl HOL.out q n c m rfl HMA.out (by unfold maxLen; omega) (by omega) (by simp) ?_; intro v' w2 hown hgrow; have HO2 : Hid (OwnI w2 wr.heap.size v' m) := Lib.hid (by unfold OwnI; have h1 := HLM.out; rw [Nat.zero_add, List.nil_append, h1] at hown; exact hown); have HB2 := Lib.hid ((HBA.out).grown hgrow (by simp) (fun j hj => (World.ownsRow.lt HOL.out j hj).1)); clear hown hgrow)
          obtain ⟨qo, no, co, rfl, hiso⟩ := HO2.out.is
          have H2 := Lib.hid (HBr.out.trans (HB2.out.mono hbz))
          have HM2 := Lib.hid (HMr.out.step HB2.out)
          have HK2 := Lib.hid (HKr.out.step HB2.out)
          have H72 := Lib.hid (H7.out.step HB2.out)
          have H82 := Lib.hid (H8.out.step HB2.out)
          have HO2' := Lib.hid hiso
          clear hiso HMr HKr H7 H8 HBr HBA HMA HOL HO2 HB HBo
          refine (then_any q n c m q2 n2 c2 k w2 HM2.out HK2.out (by omega)).mono ?_
          rintro e w3 ⟨v3, rfl, ho3, hb3⟩
          obtain ⟨q3, n3, c3, rfl, his3⟩ := ho3.is
          have hn3 : n3 = n := by have := his3.1; simp at this; have := HLM.out; omega
          subst hn3
          have H3 := Lib.hid (H2.out.trans (hb3.mono H2.out.size))
          have HM3 := Lib.hid (HM2.out.step hb3)
          have H83 := Lib.hid (H82.out.step hb3)
          have HO3 := Lib.hid (HO2'.out.step hb3)
          have HI3 := Lib.hid (ints_same q3 q7 n3 n7 c3 c7 (m.map (thAt k)) w3 his3 (H72.out.step hb3) (by omega))
          clear ho3 hb3 his3 HM2 HK2 H72 H82 H2 HO2'
          go_wp2_with fail
          refine HI3.out.mono ?_
          rintro e w4 ⟨rfl, hb4⟩
          have H4 := Lib.hid (H3.out.trans (hb4.mono H3.out.size))
          have HM4 := Lib.hid (HM3.out.step hb4)
          have H84 := Lib.hid (H83.out.step hb4)
          have HO4 := Lib.hid (HO3.out.step hb4)
          clear hb4 HI3 H3 HM3 H83 HO3
          go_wp2_with fail
          refine (new_any N NN q n3 c m w4 HM4.out (by omega) HWM.out (by omega) HNN.out HN0.out).mono ?_
          rintro e w5 ⟨v5, rfl, ho5, hb5⟩
          obtain ⟨q5, n5, c5, rfl, his5⟩ := ho5.is
          have hn5 : n5 ≤ 1000 := by have := his5.1; have h2 := selN_len (fun i => !inI m (i : Int)) NN; unfold restN at this; omega
          have H5 := Lib.hid (H4.out.trans (hb5.mono H4.out.size))
          have HM5 := Lib.hid (HM4.out.step hb5)
          have HO5 := Lib.hid (HO4.out.step hb5)
          have HI5 := Lib.hid (ints_same q5 q8 n5 n8 c5 c8 (restN m NN) w5 his5 (H84.out.step hb5) hn5)
          clear ho5 hb5 his5 hn5 HM4 H84 H4 HO4
          go_wp2_with fail
          refine HI5.out.mono ?_
          rintro e w6 ⟨rfl, hb6⟩
          have H6 := Lib.hid (H5.out.trans (hb6.mono H5.out.size))
          have HI6 := Lib.hid (ints_same q qo n3 no c co m w6 (HM5.out.step hb6) (HO5.out.step hb6) (by omega))
          clear hb6 HI5 H5 HM5 HO5
          go_wp2_with fail
          refine HI6.out.mono ?_
          rintro e w7 ⟨rfl, hb7⟩
          have H7 := Lib.hid (H6.out.trans (hb7.mono H6.out.size))
          clear hb7 HI6 H6
          go_wp2_with fail
          refine (alive_any w7).mono ?_
          rintro e w8 ⟨rfl, hb8⟩
          have H8 := Lib.hid (H7.out.trans (hb8.mono H7.out.size))
          clear hb8 H7
          go_wp2_with fail
          go_ret
          exact ⟨rfl, H8.out⟩
theorem maps_walk (q : Option Addr) (n c : Nat) (m : List Int) (q2 : Option Addr) (n2 c2 : Nat) (k : List Int) (N : Int) (w : World) (hm : IS w q n c m ∧ ∀ x ∈ m, W64 x) (_hn : n ≤ maxLen) (hk : IS w q2 n2 c2 k ∧ ∀ x ∈ k, W64 x) (_hn2 : n2 ≤ maxLen) (hN0 : (Lit.int .i64 N).wf = true) :
    Calls Try.prog 4 #[.slice q n c, .slice q2 n2 c2, .int .i64 N] w fun e w' => e = .returned (.bool true) ∧ Below w.heap.size w w' := by
  by_cases h1 : 16777216 < N ∧ n ≤ 100
  · exact maps_far q n c q2 n2 c2 N w h1.1 h1.2
  · by_cases h2 : 100 < n ∨ 100 < n2 ∨ 200 < N
    · exact maps_big q n c q2 n2 c2 N w h1 h2
    · exact maps_small q n c m q2 n2 c2 k N w hm.1 hk.1 hm.2 (bounds_i64 hN0) (by omega) (by omega) (by omega)
end Go.Proofs.Ytggoajpemffbiaa
