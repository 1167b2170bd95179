/-
  The document's Check and taken, as the statements have them.
-/
import Derived.Test.YtficgilapbmmpaaCheck
namespace Go.Proofs.Ytficgilapbmmpaa
open Go.RowKit
set_option linter.unusedVariables false

set_option maxHeartbeats 1000000 in
theorem refCheck_some (n : Int) (l : List Ed) (b off cap : Nat) (w : World) (hc : EditsAt w b off l) (hb : b < w.heap.size) (hcap : l.length ≤ cap) (hm : l.length ≤ 60) (hl : 0 < l.length) (hn : 0 ≤ n) :
    Calls Try.prog 15 #[.int .i64 n, .slice (some ⟨b, off, none⟩) l.length cap] w fun e w' => e = .returned (.int .i64 (checkN n l)) ∧ Below w.heap.size w w' := by
  have H := Lib.hid hc
  clear hc
  go_enter Try.func15, Try.ntmps15
  go_wp2
  go_loopw [5] (fun i wr => ∃ k : Nat, k ≤ l.length ∧ i = .int .i64 k ∧ Below w.heap.size w wr ∧ ∀ i, (h : i < l.length) → i < k → l[i].lies n) (fun i _ => l.length - (intOf i).toNat)
  case atStart => exact ⟨0, by omega, rfl, Below.refl _ _, fun i _ h => absurd h (by omega)⟩
  case round =>
    obtain ⟨k, hk, rfl, rb, hd⟩ := hrel
    have HD := Lib.hid hd
    have rz := rb.size
    clear hd
    by_cases hlt : k < l.length
    · have e0 := (rb.cell (p := ⟨b, off + k * 3, none⟩) hb).trans (H.out k hlt).1
      have e1 := (rb.cell (p := ⟨b, off + k * 3 + 1, none⟩) hb).trans (H.out k hlt).2.1
      by_cases hx : l[k].lies n
      · have hx' := hx
        obtain ⟨x0, x1, x2⟩ := hx'
        have HX := Lib.hid hx
        clear hx
        generalize hz : l[k] = z at e0 e1 x0 x1 x2
        have HZ := Lib.hid hz
        clear hz
        have d0 : decide (z.a < 0) = false := by rw [decide_eq_false_iff_not]; omega
        have d1 : decide (z.e < z.a) = false := by rw [decide_eq_false_iff_not]; omega
        have d2 : decide (n < z.e) = false := by rw [decide_eq_false_iff_not]; omega
        go_wp2_with fail
        go_quiet (fail)
        go_wp2_with fail
        go_roundw
        case rel =>
          refine ⟨k + 1, by omega, by go_num, below_drewN rb _, fun i hi hik => ?_⟩
          by_cases hi2 : i = k
          · subst hi2; exact HX.out
          · exact HD.out i hi (by omega)
        case measure => simp [intOf]; omega
      · have HN := Lib.hid (checkN_range (n := n) k hlt hx)
        have hx' : ¬ (0 ≤ l[k].a ∧ l[k].a ≤ l[k].e ∧ l[k].e ≤ n) := hx
        have HX := Lib.hid hx'
        clear hx hx'
        generalize hz : l[k] = z at e0 e1 HX
        have HZ := Lib.hid hz
        clear hz
        by_cases x0 : 0 ≤ z.a
        · have d0 : decide (z.a < 0) = false := by rw [decide_eq_false_iff_not]; omega
          by_cases x1 : z.a ≤ z.e
          · have x2 : n < z.e := Int.not_le.1 (fun h => HX.out ⟨x0, x1, h⟩)
            have d1 : decide (z.e < z.a) = false := by rw [decide_eq_false_iff_not]; omega
            have d2 : decide (n < z.e) = true := by rw [decide_eq_true_eq]; omega
            clear HX
            go_wp2_with fail
            go_quiet (fail)
            go_wp2_with fail
            go_ret
            exact ⟨ret_int HN.out.symm, below_drewN rb _⟩
          · have d1 : decide (z.e < z.a) = true := by rw [decide_eq_true_eq]; omega
            clear HX
            go_wp2_with fail
            go_quiet (fail)
            go_wp2_with fail
            go_ret
            exact ⟨ret_int HN.out.symm, below_drewN rb _⟩
        · have d0 : decide (z.a < 0) = true := by rw [decide_eq_true_eq]; omega
          clear HX
          go_wp2_with fail
          go_quiet (fail)
          go_wp2_with fail
          go_ret
          exact ⟨ret_int HN.out.symm, below_drewN rb _⟩
    · obtain ⟨wo, rfl⟩ : ∃ wo : World, wo = wr := ⟨_, rfl⟩
      go_wp2
      go_loopw [6] (fun i wr => ∃ k : Nat, 1 ≤ k ∧ k ≤ l.length ∧ i = .int .i64 k ∧ Below w.heap.size w wr ∧ Done l k) (fun i _ => l.length - (intOf i).toNat)
      case atStart => exact ⟨1, by omega, by omega, rfl, rb, fun i _ h => absurd h (by omega)⟩
      case round =>
        obtain ⟨j, hj1, hj, rfl, rj, hd⟩ := hrel
        have HJ := Lib.hid hd
        have rz := rj.size
        clear hd
        by_cases hjt : j < l.length
        · obtain ⟨i, rfl⟩ : ∃ i, j = i + 1 := ⟨j - 1, by omega⟩
          have e0 := (rj.cell (p := ⟨b, off + (i + 1) * 3, none⟩) hb).trans (H.out (i + 1) hjt).1
          have e1 := (rj.cell (p := ⟨b, off + i * 3 + 1, none⟩) hb).trans (H.out i (by omega)).2.1
          by_cases hx : l[i + 1].a ≤ l[i].e
          · have HN := Lib.hid (checkN_near (by omega) (fun i hi => HD.out i hi (by omega)) i hjt hx)
            clear rb HD
            generalize l[i + 1].a = p at *
            generalize l[i].e = q at *
            go_wp2
            go_quiet (fail)
            go_wp2
            go_ret
            exact ⟨ret_int HN.out.symm, below_drewN rj _⟩
          · have hx' : l[i].e < l[i + 1].a := by omega
            have HX := Lib.hid hx'
            clear rb HD hx'
            generalize hp : l[i + 1].a = p at *
            generalize hq : l[i].e = q at *
            have HP := Lib.hid hp
            have HQ := Lib.hid hq
            clear hp hq
            go_wp2
            go_quiet (fail)
            go_wp2
            go_roundw
            case rel =>
              refine ⟨i + 1 + 1, by omega, by omega, by go_num, below_drewN rj _, fun m hm1 hm2 => ?_⟩
              by_cases hmi : m = i
              · subst hmi; rw [HP.out, HQ.out]; exact HX.out
              · exact HJ.out m hm1 (by omega)
            case measure => simp [intOf]; omega
        · have HN := Lib.hid (checkN_ok (n := n) (l := l) (by omega) (fun i hi => HD.out i hi (by omega)) (fun i hi => HJ.out i hi (by omega)))
          clear rb HD
          go_wp2
          go_ret
          exact ⟨ret_int HN.out.symm, rj⟩

theorem refCheck_neg (n : Int) (p : Option Addr) (m cap : Nat) (l : List Ed) (w : World) (hn : n < 0) :
    Calls Try.prog 15 #[.int .i64 n, .slice p m cap] w fun e w' => e = .returned (.int .i64 (checkN n l)) ∧ Below w.heap.size w w' := by
  have hh := Lib.hid (checkN_neg (l := l) hn)
  go_enter Try.func15, Try.ntmps15
  go_wp2
  go_ret
  exact ⟨ret_int hh.out.symm, Below.refl _ _⟩

theorem refCheck_none (n : Int) (p : Option Addr) (cap : Nat) (w : World) (hn : 0 ≤ n) :
    Calls Try.prog 15 #[.int .i64 n, .slice p 0 cap] w fun e w' => e = .returned (.int .i64 (checkN n [])) ∧ Below w.heap.size w w' := by
  have hh := Lib.hid (checkN_ok (l := []) (n := n) (by omega) (fun i hi => absurd hi (by simp)) (fun i hi => absurd hi (by simp)))
  go_enter Try.func15, Try.ntmps15
  go_wp2
  refine wp_loop_rounds 1 ?_
  rw [rounds_succ]
  go_wp2
  refine wp_loop_rounds 1 ?_
  rw [rounds_succ]
  go_wp2
  go_ret
  exact ⟨ret_int hh.out.symm, Below.refl _ _⟩

theorem refCheck_any (n : Int) (p : Option Addr) (m cap : Nat) (l : List Ed) (w : World) (h : EditsIn w p m cap l) (hm : m ≤ 60) :
    Calls Try.prog 15 #[.int .i64 n, .slice p m cap] w fun e w' => e = .returned (.int .i64 (checkN n l)) ∧ Below w.heap.size w w' := by
  by_cases hn0 : n < 0
  · exact refCheck_neg n p m cap l w hn0
  obtain ⟨hn, h0 | ⟨b, off, rfl, hc, hb, hat⟩⟩ := h
  · subst h0
    have : l = [] := List.length_eq_zero_iff.1 hn.symm
    subst this
    exact refCheck_none n p cap w (by omega)
  · subst hn
    by_cases hl : 0 < l.length
    · exact refCheck_some n l b off cap w hat hb hc hm hl (by omega)
    · have : l = [] := List.length_eq_zero_iff.1 (by omega)
      subst this
      exact refCheck_none n _ cap w (by omega)

/-- A byte is taken by some edit. -/
def TakenBy (i : Int) (l : List Ed) : Prop := ∃ j, ∃ h : j < l.length, l[j].a ≤ i ∧ i < l[j].e

/-- What taken tells. -/
def TakenPost (i : Int) (l : List Ed) (w : World) (e : Ending) (w' : World) : Prop :=
  ∃ v : Int, e = .returned (.int .i64 v) ∧ w = w' ∧ (0 ≤ v ↔ TakenBy i l) ∧ v ≤ 60

set_option maxHeartbeats 400000 in
theorem taken_some (i : Int) (l : List Ed) (b off cap : Nat) (w : World) (hc : EditsAt w b off l) (hcap : l.length ≤ cap) (hm : l.length ≤ 60) :
    Calls Try.prog 29 #[.int .i64 i, .slice (some ⟨b, off, none⟩) l.length cap] w fun e w' => TakenPost i l w e w' := by
  have H := Lib.hid hc
  clear hc
  go_enter Try.func29, Try.ntmps29
  go_wp2
  go_loop [5] (fun c => ∃ k : Nat, k ≤ l.length ∧ c = .int .i64 k ∧ ∀ j, (h : j < l.length) → j < k → ¬ (l[j].a ≤ i ∧ i < l[j].e)) (fun c => l.length - (intOf c).toNat)
  case atStart => exact ⟨0, by omega, rfl, fun j _ h => absurd h (by omega)⟩
  case round =>
    obtain ⟨k, hk, rfl, hd⟩ := hrel
    have HD := Lib.hid hd
    clear hd
    by_cases hlt : k < l.length
    · obtain ⟨e0, e1, e2⟩ := H.out k hlt
      by_cases h1 : l[k].a ≤ i
      · by_cases h2 : i < l[k].e
        · have HT : Hid (TakenBy i l) := Lib.hid ⟨k, hlt, h1, h2⟩
          generalize l[k].a = za at *
          generalize l[k].e = ze at *
          go_wp2
          go_ret
          exact ⟨_, rfl, rfl, ⟨fun _ => HT.out, fun _ => by omega⟩, by omega⟩
        · have HQ : Hid (¬ (l[k].a ≤ i ∧ i < l[k].e)) := Lib.hid (fun h => h2 h.2)
          generalize hza : l[k].a = za at *
          generalize hze : l[k].e = ze at *
          have HZA := Lib.hid hza
          have HZE := Lib.hid hze
          clear hza hze
          go_wp2
          go_round
          case rel =>
            refine ⟨k + 1, by omega, by go_num, fun j hj hjk => ?_⟩
            by_cases hj2 : j = k
            · subst hj2; rw [HZA.out, HZE.out]; exact HQ.out
            · exact HD.out j hj (by omega)
          case measure => simp [intOf]; omega
      · have HQ : Hid (¬ (l[k].a ≤ i ∧ i < l[k].e)) := Lib.hid (fun h => h1 h.1)
        generalize hza : l[k].a = za at *
        generalize hze : l[k].e = ze at *
        have HZA := Lib.hid hza
        have HZE := Lib.hid hze
        clear hza hze
        go_wp2
        go_round
        case rel =>
          refine ⟨k + 1, by omega, by go_num, fun j hj hjk => ?_⟩
          by_cases hj2 : j = k
          · subst hj2; rw [HZA.out, HZE.out]; exact HQ.out
          · exact HD.out j hj (by omega)
        case measure => simp [intOf]; omega
    · have HN : Hid (¬ TakenBy i l) := Lib.hid (fun ⟨j, hj, h⟩ => HD.out j hj (by omega) h)
      go_wp2
      go_ret
      exact ⟨-1, rfl, rfl, ⟨fun h => by omega, fun h => absurd h HN.out⟩, by omega⟩

theorem taken_none (i : Int) (p : Option Addr) (cap : Nat) (w : World) :
    Calls Try.prog 29 #[.int .i64 i, .slice p 0 cap] w fun e w' => TakenPost i [] w e w' := by
  go_enter Try.func29, Try.ntmps29
  go_wp2
  refine wp_loop_rounds 1 ?_
  rw [rounds_succ]
  go_wp2
  go_ret
  exact ⟨-1, rfl, rfl, ⟨fun h => by omega, fun ⟨j, hj, h⟩ => absurd hj (by simp)⟩, by omega⟩

theorem taken_any (i : Int) (p : Option Addr) (n cap : Nat) (l : List Ed) (w : World) (h : EditsIn w p n cap l) (hm : n ≤ 60) :
    Calls Try.prog 29 #[.int .i64 i, .slice p n cap] w fun e w' => TakenPost i l w e w' := by
  obtain ⟨hn, h0 | ⟨b, off, rfl, hc, hb, hat⟩⟩ := h
  · subst h0
    have : l = [] := List.length_eq_zero_iff.1 hn.symm
    subst this
    exact taken_none i p cap w
  · subst hn
    exact taken_some i l b off cap w hat hc hm
end Go.Proofs.Ytficgilapbmmpaa
