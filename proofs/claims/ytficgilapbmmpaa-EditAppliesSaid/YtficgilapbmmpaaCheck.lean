/-
  Check: what is wrong with edits.
-/
import Derived.Test.YtficgilapbmmpaaBase
namespace Go.Proofs.Ytficgilapbmmpaa
open Go.RowKit
set_option linter.unusedVariables false

theorem checkN_neg {n : Int} {l : List Ed} (h : n < 0) : checkN n l = 2 := by simp [checkN, h]
theorem checkN_range {n : Int} {l : List Ed} (k : Nat) (hk : k < l.length) (h : ¬ l[k].lies n) : checkN n l = 2 := by
  unfold checkN
  split
  · rfl
  · rw [if_neg (fun g => h (g _ (List.getElem_mem hk)))]
theorem checkN_near {n : Int} {l : List Ed} (h0 : 0 ≤ n) (h1 : ∀ i, (h : i < l.length) → l[i].lies n) (k : Nat) (hk : k + 1 < l.length) (h : l[k + 1].a ≤ l[k].e) : checkN n l = 3 := by
  unfold checkN
  rw [if_neg (by omega), if_pos (fun x hx => by obtain ⟨i, hi, rfl⟩ := List.getElem_of_mem hx; exact h1 i hi), if_neg (fun g => by have := (apartB_iff l).1 g k hk; omega)]
theorem checkN_ok {n : Int} {l : List Ed} (h0 : 0 ≤ n) (h1 : ∀ i, (h : i < l.length) → l[i].lies n) (h2 : Apart l) : checkN n l = 0 := by
  unfold checkN
  rw [if_neg (by omega), if_pos (fun x hx => by obtain ⟨i, hi, rfl⟩ := List.getElem_of_mem hx; exact h1 i hi), if_pos ((apartB_iff l).2 h2)]
theorem checkN_zero {n : Int} {l : List Ed} (h : checkN n l = 0) : 0 ≤ n ∧ (∀ i, (h : i < l.length) → l[i].lies n) ∧ Apart l := by
  unfold checkN at h
  split at h
  · simp at h
  · split at h
    · split at h
      · refine ⟨by omega, fun i hi => ?_, (apartB_iff l).1 (by assumption)⟩
        rename_i g _
        exact g _ (List.getElem_mem hi)
      · simp at h
    · simp at h
theorem checkN_cases (n : Int) (l : List Ed) : checkN n l = 0 ∨ checkN n l = 2 ∨ checkN n l = 3 := by
  unfold checkN; split <;> (try split) <;> (try split) <;> simp

/-- What a round of the second loop knows. -/
def Done (l : List Ed) (k : Nat) : Prop := ∀ i, (h : i + 1 < l.length) → i + 1 < k → l[i].e < l[i + 1].a

set_option maxHeartbeats 800000 in
theorem check_some (n : Int) (l : List Ed) (b off cap : Nat) (w : World) (hc : EditsAt w b off l) (hb : b < w.heap.size) (hcap : l.length ≤ cap) (hm : l.length ≤ 60) (hl : 0 < l.length) :
    Calls Try.prog 14 #[.int .i64 n, .slice (some ⟨b, off, none⟩) l.length cap] w fun e w' => e = .returned (.int .i64 (checkN n l)) ∧ Below w.heap.size w w' := by
  by_cases hn : n < 0
  · have hh := Lib.hid (checkN_neg (l := l) hn)
    go_enter Try.func14, Try.ntmps14
    go_wp2
    go_ret
    exact ⟨ret_int hh.out.symm, Below.refl _ _⟩
  have H := Lib.hid hc
  clear hc
  go_enter Try.func14, Try.ntmps14
  go_wp2
  go_loopw [12] (fun i wr => ∃ k : Nat, k ≤ l.length ∧ i = .int .i64 k ∧ Below w.heap.size w wr ∧ ∀ i, (h : i < l.length) → i < k → l[i].lies n) (fun i _ => l.length - (intOf i).toNat)
  case atStart => exact ⟨0, by omega, rfl, Below.refl _ _, fun i _ h => absurd h (by omega)⟩
  case round =>
    obtain ⟨k, hk, rfl, rb, hd⟩ := hrel
    have HD := Lib.hid hd
    have rz := rb.size
    clear hd
    by_cases hlt : k < l.length
    · have e0 := (rb.cell (p := ⟨b, off + k * 3, none⟩) hb).trans (H.out k hlt).1
      have e1 := (rb.cell (p := ⟨b, off + k * 3 + 1, none⟩) hb).trans (H.out k hlt).2.1
      have e2 := (rb.cell (p := ⟨b, off + k * 3 + 2, none⟩) hb).trans (H.out k hlt).2.2
      by_cases hx : l[k].lies n
      · have hx' := hx
        obtain ⟨x0, x1, x2⟩ := hx'
        have HX := Lib.hid hx
        clear hx
        generalize hz : l[k] = z at e0 e1 e2 x0 x1 x2
        have HZ := Lib.hid hz
        clear hz
        go_wp2
        go_roundw
        case rel =>
          refine ⟨k + 1, by omega, by go_num, by go_grown, fun i hi hik => ?_⟩
          by_cases hi2 : i = k
          · subst hi2; exact HX.out
          · exact HD.out i hi (by omega)
        case measure => simp [intOf]; omega
      · have HN := Lib.hid (checkN_range (n := n) k hlt hx)
        have hx' : ¬ (0 ≤ l[k].a ∧ l[k].a ≤ l[k].e ∧ l[k].e ≤ n) := hx
        have HX := Lib.hid hx'
        clear hx hx'
        generalize hz : l[k] = z at e0 e1 e2 HX
        have HZ := Lib.hid hz
        clear hz
        by_cases x0 : 0 ≤ z.a
        · by_cases x1 : z.a ≤ z.e
          · have x2 : ¬ z.e ≤ n := fun x2 => HX.out ⟨x0, x1, x2⟩
            clear HX
            go_wp2
            go_ret
            exact ⟨ret_int HN.out.symm, by go_grown⟩
          · clear HX
            go_wp2
            go_ret
            exact ⟨ret_int HN.out.symm, by go_grown⟩
        · clear HX
          by_cases x1 : z.a ≤ z.e
          · go_wp2
            go_ret
            exact ⟨ret_int HN.out.symm, by go_grown⟩
          · go_wp2
            go_ret
            exact ⟨ret_int HN.out.symm, by go_grown⟩
    · obtain ⟨wo, rfl⟩ : ∃ wo : World, wo = wr := ⟨_, rfl⟩
      go_wp2
      go_loopw [7] (fun i wr => ∃ k : Nat, 1 ≤ k ∧ k ≤ l.length ∧ i = .int .i64 k ∧ Below w.heap.size w wr ∧ Done l k) (fun i _ => l.length - (intOf i).toNat)
      case atStart => exact ⟨1, by omega, by omega, rfl, rb, fun i _ h => absurd h (by omega)⟩
      case round =>
        obtain ⟨j, hj1, hj, rfl, rj, hd⟩ := hrel
        have HJ := Lib.hid hd
        have rz := rj.size
        clear hd
        by_cases hjt : j < l.length
        · obtain ⟨i, rfl⟩ : ∃ i, j = i + 1 := ⟨j - 1, by omega⟩
          have e0 := (rj.cell (p := ⟨b, off + (i + 1) * 3, none⟩) hb).trans (H.out (i + 1) hjt).1
          have e1 := (rj.cell (p := ⟨b, off + i * 3 + 1, none⟩) hb).trans (H.out i (by omega)).2.1
          by_cases hx : l[i + 1].a ≤ l[i].e
          · have HN := Lib.hid (checkN_near (by omega) (fun i hi => HD.out i hi (by omega)) i hjt hx)
            clear rb HD
            generalize l[i + 1].a = p at *
            generalize l[i].e = q at *
            go_wp2
            go_quiet (fail)
            go_wp2
            go_ret
            exact ⟨ret_int HN.out.symm, below_drewN rj _⟩
          · have hx' : l[i].e < l[i + 1].a := by omega
            have HX := Lib.hid hx'
            clear rb HD hx'
            generalize hp : l[i + 1].a = p at *
            generalize hq : l[i].e = q at *
            have HP := Lib.hid hp
            have HQ := Lib.hid hq
            clear hp hq
            go_wp2
            go_quiet (fail)
            go_wp2
            go_roundw
            case rel =>
              refine ⟨i + 1 + 1, by omega, by omega, by go_num, below_drewN rj _, fun m hm1 hm2 => ?_⟩
              by_cases hmi : m = i
              · subst hmi; rw [HP.out, HQ.out]; exact HX.out
              · exact HJ.out m hm1 (by omega)
            case measure => simp [intOf]; omega
        · have HN := Lib.hid (checkN_ok (n := n) (l := l) (by omega) (fun i hi => HD.out i hi (by omega)) (fun i hi => HJ.out i hi (by omega)))
          clear rb HD
          go_wp2
          go_ret
          exact ⟨ret_int HN.out.symm, by go_grown⟩

theorem check_none (n : Int) (p : Option Addr) (cap : Nat) (w : World) :
    Calls Try.prog 14 #[.int .i64 n, .slice p 0 cap] w fun e w' => e = .returned (.int .i64 (checkN n [])) ∧ Below w.heap.size w w' := by
  by_cases hn : n < 0
  · have hh := Lib.hid (checkN_neg (l := []) hn)
    go_enter Try.func14, Try.ntmps14
    go_wp2
    go_ret
    exact ⟨ret_int hh.out.symm, Below.refl _ _⟩
  · have hh := Lib.hid (checkN_ok (l := []) (n := n) (by omega) (fun i hi => absurd hi (by simp)) (fun i hi => absurd hi (by simp)))
    go_enter Try.func14, Try.ntmps14
    go_wp2
    refine wp_loop_rounds 1 ?_
    rw [rounds_succ]
    go_wp2
    refine wp_loop_rounds 1 ?_
    rw [rounds_succ]
    go_wp2
    go_ret
    exact ⟨ret_int hh.out.symm, by go_grown⟩

theorem check_any (n : Int) (p : Option Addr) (m cap : Nat) (l : List Ed) (w : World) (h : EditsIn w p m cap l) (hm : m ≤ 60) :
    Calls Try.prog 14 #[.int .i64 n, .slice p m cap] w fun e w' => e = .returned (.int .i64 (checkN n l)) ∧ Below w.heap.size w w' := by
  obtain ⟨hn, h0 | ⟨b, off, rfl, hc, hb, hat⟩⟩ := h
  · subst h0
    have : l = [] := List.length_eq_zero_iff.1 hn.symm
    subst this
    exact check_none n p cap w
  · subst hn
    by_cases hl : 0 < l.length
    · exact check_some n l b off cap w hat hb hc hm hl
    · have : l = [] := List.length_eq_zero_iff.1 (by omega)
      subst this
      exact check_none n _ cap w
end Go.Proofs.Ytficgilapbmmpaa
