/-
  The document's Map, walked: it counts.
-/
import Derived.Test.YtficgilapbmmpaaRefMap
namespace Go.Proofs.Ytficgilapbmmpaa
open Go.RowKit
set_option linter.unusedVariables false

theorem refMap_bad (n i : Int) (p : Option Addr) (m cap : Nat) (l : List Ed) (w : World) (h : EditsIn w p m cap l) (hm : m ≤ 60) (hbad : checkN n l ≠ 0) :
    Calls Try.prog 22 #[.int .i64 n, .int .i64 i, .slice p m cap] w fun e w' => e = .returned (.tuple #[.int .i64 0, .bool false]) ∧ Below w.heap.size w w' := by
  have HC := refCheck_any n p m cap l w h hm
  have hne : (checkN n l == 0) = false := by rw [beq_eq_false_iff_ne]; exact hbad
  have hne2 : (checkN n l != 0) = true := by rw [bne, hne]; rfl
  generalize checkN n l = c at *
  go_enter Try.func22, Try.ntmps22
  go_wp2_with (go_at_call 15; refine HC.mono ?_; rintro e w1 ⟨rfl, hb⟩)
  go_returns
  exact ⟨rfl, hb⟩
theorem refMap_out (n i : Int) (p : Option Addr) (m cap : Nat) (l : List Ed) (w : World) (h : EditsIn w p m cap l) (hm : m ≤ 60) (hok : checkN n l = 0) (hout : i < 0 ∨ n ≤ i) :
    Calls Try.prog 22 #[.int .i64 n, .int .i64 i, .slice p m cap] w fun e w' => e = .returned (.tuple #[.int .i64 0, .bool false]) ∧ Below w.heap.size w w' := by
  have HC := check_is 15 n p m cap l 0 hok w (refCheck_any n p m cap l w h hm)
  clear hok
  by_cases h0 : i < 0
  · clear hout
    go_enter Try.func22, Try.ntmps22
    go_wp2_with (go_at_call 15; refine HC.mono ?_; rintro e w1 ⟨rfl, hb⟩)
    go_returns
    exact ⟨rfl, hb⟩
  · have h1 : n ≤ i := by omega
    clear hout
    go_enter Try.func22, Try.ntmps22
    go_wp2_with (go_at_call 15; refine HC.mono ?_; rintro e w1 ⟨rfl, hb⟩)
    go_returns
    exact ⟨rfl, hb⟩
theorem taken_is (i : Int) (p : Option Addr) (n cap : Nat) (l : List Ed) (w : World) (h : EditsIn w p n cap l) (hm : n ≤ 60) (b : Bool) (hb : takenB i l = b) :
    Calls Try.prog 29 #[.int .i64 i, .slice p n cap] w fun e w' => ∃ v : Int, e = .returned (.int .i64 v) ∧ w = w' ∧ (if b then 0 ≤ v else v < 0) := by
  refine (taken_any i p n cap l w h hm).mono ?_
  rintro e w' ⟨v, rfl, rfl, hv, _⟩
  refine ⟨v, rfl, rfl, ?_⟩
  cases b with
  | true => exact hv.2 ((takenB_iff i l).1 hb)
  | false =>
    show v < 0
    rcases Int.lt_or_le v 0 with h1 | h1
    · exact h1
    · have := (takenB_iff i l).2 (hv.1 h1)
      rw [hb] at this
      cases this

theorem refMap_taken (n i : Int) (p : Option Addr) (m cap : Nat) (l : List Ed) (w : World) (h : EditsIn w p m cap l) (hm : m ≤ 60) (hok : checkN n l = 0) (h0 : 0 ≤ i) (h1 : i < n) (ht : takenB i l = true) :
    Calls Try.prog 22 #[.int .i64 n, .int .i64 i, .slice p m cap] w fun e w' => e = .returned (.tuple #[.int .i64 0, .bool false]) ∧ Below w.heap.size w w' := by
  have HC := check_is 15 n p m cap l 0 hok w (refCheck_any n p m cap l w h hm)
  have HT := fun w1 (h : EditsIn w1 p m cap l) => taken_is i p m cap l w1 h hm true ht
  have HI := Lib.hid h
  clear hok ht h
  go_enter Try.func22, Try.ntmps22
  go_wp2_with fail
  refine HC.mono ?_
  rintro e w1 ⟨rfl, hb⟩
  go_wp2_with fail
  refine (HT _ (HI.out.step hb)).mono ?_
  rintro e w2 ⟨v, rfl, rfl, hv⟩
  have hv' : 0 ≤ v := hv
  clear hv HT HC
  go_wp2
  go_returns
  exact ⟨rfl, hb⟩

theorem ret_it {a b : Int} (h : a = b) : Ending.returned (.tuple #[.int .i64 a, .bool true]) = .returned (.tuple #[.int .i64 b, .bool true]) := by rw [h]
theorem insL_take (i : Int) (l : List Ed) (k : Nat) (h : k < l.length) : insL i (l.take (k + 1)) = insL i (l.take k) + if l[k].a ≤ i then l[k].t.size else 0 := by
  have happ : ∀ a b : List Ed, insL i (a ++ b) = insL i a + insL i b := fun a b => by
    induction a with
    | nil => simp [insL]
    | cons x r ih => simp [insL, ih]; omega
  rw [List.take_succ_eq_append_getElem h, happ]; simp [insL]
theorem insL_le (i : Int) (l : List Ed) : insL i l ≤ bytes l := by
  induction l with
  | nil => simp [insL, bytes]
  | cons x r ih => simp only [insL, bytes]; split <;> omega
theorem insL_take_le (i : Int) (l : List Ed) (k : Nat) : insL i (l.take k) ≤ bytes l := by
  induction l generalizing k with
  | nil => simp [insL, bytes]
  | cons x r ih =>
    cases k with
    | zero => simp [insL]
    | succ k => have := ih k; simp only [List.take_succ_cons, insL, bytes]; split <;> omega

set_option maxHeartbeats 1000000 in
theorem refMap_yes (n : Int) (i : Nat) (p : Option Addr) (m cap : Nat) (l : List Ed) (w : World) (h : EditsIn w p m cap l) (hm : m ≤ 60) (hok : checkN n l = 0) (h1 : (i : Int) < n) (hn : n ≤ 100000) (ht : takenB i l = false) (hby : bytes l ≤ 2000) :
    Calls Try.prog 22 #[.int .i64 n, .int .i64 i, .slice p m cap] w fun e w' => e = .returned (.tuple #[.int .i64 (cntN (fun j => takenB j l) i + insL i l), .bool true]) ∧ Below w.heap.size w w' := by
  have HC := check_is 15 n p m cap l 0 hok w (refCheck_any n p m cap l w h hm)
  have HT := fun w1 (h : EditsIn w1 p m cap l) => taken_is i p m cap l w1 h hm false ht
  have HTT := fun w1 (h : EditsIn w1 p m cap l) (j : Nat) => taken_is j p m cap l w1 h hm (takenB j l) rfl
  have hml := h.1
  subst hml
  have HI := Lib.hid h
  clear hok ht h
  go_enter Try.func22, Try.ntmps22
  go_wp2_with fail
  refine HC.mono ?_
  rintro e w1 ⟨rfl, hb⟩
  have hi1 := HI.out.step hb
  go_wp2_with fail
  refine (HT _ hi1).mono ?_
  rintro e w2 ⟨v, rfl, rfl, hv⟩
  have hv' : v < 0 := hv
  have HI1 := Lib.hid hi1
  clear hv HT HC hi1
  go_wp2_with fail
  go_loop [8, 9] (fun to c => ∃ k : Nat, k ≤ i ∧ c = .int .i64 k ∧ to = .int .i64 (cntN (fun j => takenB j l) k)) (fun _ c => i - (intOf c).toNat)
  case atStart => exact ⟨0, by omega, rfl, rfl⟩
  case round =>
    obtain ⟨k, hk, rfl, rfl⟩ := hrel
    have hc1 := cntN_le (fun j => takenB j l) k
    by_cases hlt : k < i
    · have hcs : cntN (fun j => takenB j l) (k + 1) = cntN (fun j => takenB j l) k + if takenB k l then 0 else 1 := rfl
      have HCS := Lib.hid hcs
      clear hcs
      generalize cntN (fun j => takenB j l) k = cc at *
      go_wp2_with fail
      refine (HTT _ HI1.out k).mono ?_
      rintro e w3 ⟨u, rfl, rfl, hu⟩
      cases htk : takenB k l with
      | true =>
        rw [htk] at hu
        have hu' : 0 ≤ u := hu
        have HTK := Lib.hid htk
        clear hu htk
        go_wp2_with fail
        go_round
        case rel => exact ⟨k + 1, by omega, by go_num, by rw [HCS.out, HTK.out]; rfl⟩
        case measure => simp [intOf]; omega
      | false =>
        rw [htk] at hu
        have hu' : u < 0 := hu
        have HTK := Lib.hid htk
        clear hu htk
        go_wp2_with fail
        go_round
        case rel => exact ⟨k + 1, by omega, by go_num, by rw [HCS.out, HTK.out]; go_num⟩
        case measure => simp [intOf]; omega
    · have hki : k = i := by omega
      rw [hki] at hc1 ⊢
      clear hki hlt hk
      generalize hcc : cntN (fun j => takenB j l) i = cc at *
      have HCC := Lib.hid hcc
      clear hcc
      go_wp2_with fail
      go_loop [8, 10] (fun to c => ∃ j : Nat, j ≤ l.length ∧ c = .int .i64 j ∧ to = .int .i64 (cc + insL i (l.take j))) (fun _ c => l.length - (intOf c).toNat)
      case atStart => exact ⟨0, by omega, rfl, rfl⟩
      case round =>
        obtain ⟨j, hj, rfl, rfl⟩ := hrel
        have hin := insL_take_le i l j
        by_cases hlj : j < l.length
        · obtain ⟨b, off, rfl, hcap, hbb, hat⟩ : ∃ b off, p = some ⟨b, off, none⟩ ∧ l.length ≤ cap ∧ b < w1.heap.size ∧ EditsAt w1 b off l := by
            rcases HI1.out.2 with h0 | h0
            · omega
            · exact h0
          obtain ⟨e0, e1, e2⟩ := hat j hlj
          have his := insL_take i l j hlj
          have hin2 := insL_take_le i l (j + 1)
          rw [his] at hin2
          have HIS := Lib.hid his
          clear hat his
          by_cases hai : l[j].a ≤ i
          · rw [if_pos hai] at hin2
            have HAI := Lib.hid hai
            generalize insL i (l.take j) = pi at *
            generalize hza : l[j].a = za at *
            generalize hzt : l[j].t = zt at *
            have HZA := Lib.hid hza
            have HZT := Lib.hid hzt
            clear hza hzt
            go_wp2_with fail
            go_round
            case rel => exact ⟨j + 1, by omega, by go_num, by rw [HIS.out, if_pos HAI.out]; go_num⟩
            case measure => simp [intOf]; omega
          · rw [if_neg hai] at hin2
            have HAI := Lib.hid hai
            generalize insL i (l.take j) = pi at *
            generalize hza : l[j].a = za at *
            generalize hzt : l[j].t = zt at *
            have HZA := Lib.hid hza
            have HZT := Lib.hid hzt
            clear hza hzt
            go_wp2_with fail
            go_round
            case rel => exact ⟨j + 1, by omega, by go_num, by rw [HIS.out, if_neg HAI.out]; go_num⟩
            case measure => simp [intOf]; omega
        · have htl : l.take j = l := List.take_of_length_le (by omega)
          rw [htl] at hin ⊢
          clear htl
          generalize hpi : insL i l = pi at *
          have HPI := Lib.hid hpi
          clear hpi
          go_wp2_with fail
          go_returns
          exact ⟨ret_it (by rw [HCC.out, HPI.out]), hb⟩

theorem refMap_any (n i : Int) (p : Option Addr) (m cap : Nat) (l : List Ed) (w : World) (h : EditsIn w p m cap l) (hf : fewB l = true) (hn : n ≤ 100000) :
    Calls Try.prog 22 #[.int .i64 n, .int .i64 i, .slice p m cap] w fun e w' => e = .returned (.tuple #[.int .i64 (mapN n i l).1, .bool (mapN n i l).2]) ∧ Below w.heap.size w w' := by
  obtain ⟨hl60, hby⟩ := bytes_of_few hf
  have hm : m ≤ 60 := by rw [h.1]; exact hl60
  by_cases hok : checkN n l = 0
  · by_cases hout : i < 0 ∨ n ≤ i
    · refine (refMap_out n i p m cap l w h hm hok hout).mono ?_
      rintro e w' ⟨rfl, hb⟩
      exact ⟨ret_pair (mapN_no (.inr hout)), hb⟩
    · have h0 : 0 ≤ i := by omega
      have h1 : i < n := by omega
      obtain ⟨k, rfl⟩ := Int.eq_ofNat_of_zero_le h0
      rw [mapN_yes hok h0 h1]
      cases ht : takenB (k : Int) l with
      | true =>
        refine (refMap_taken n k p m cap l w h hm hok h0 h1 ht).mono ?_
        rintro e w' ⟨rfl, hb⟩
        refine ⟨ret_pair ?_, hb⟩
        obtain ⟨xs, last, hnn, hl, hg⟩ := segs_for hok
        subst hl
        exact mapL_taken_all xs 0 0 k (by omega) ht
      | false =>
        refine (refMap_yes n k p m cap l w h hm hok h1 hn ht hby).mono ?_
        rintro e w' ⟨rfl, hb⟩
        refine ⟨ret_pair ?_, hb⟩
        obtain ⟨xs, last, hnn, hl, hg⟩ := segs_for hok
        subst hl
        rw [mapL_count xs 0 0 k (by omega) ht]
        simp
  · refine (refMap_bad n i p m cap l w h hm hok).mono ?_
    rintro e w' ⟨rfl, hb⟩
    exact ⟨ret_pair (mapN_no (.inl hok)), hb⟩
end Go.Proofs.Ytficgilapbmmpaa
