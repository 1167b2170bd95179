/-
  Same: true just if two lists of edits are the same.
-/
import Derived.Test.YtficgilapbmmpaaBase
namespace Go.Proofs.Ytficgilapbmmpaa
open Go.RowKit
set_option linter.unusedVariables false

theorem eq55 (x y : Ed) (w : World) : (Op.equalIn 10000 55 (.agg #[.int .i64 x.a, .int .i64 x.e, .string x.t]) (.agg #[.int .i64 y.a, .int .i64 y.e, .string y.t])).run Try.prog w = .ok (decide (x = y)) w := by
  rw [run_equalIn_agg w 9999 55 _ _ (by kernel_rfl) (by kernel_rfl)]
  unfold Program.fieldsOf
  rw [Try.underlying55]
  by_cases h0 : x.a = y.a
  · by_cases h1 : x.e = y.e
    · by_cases h2 : x.t = y.t
      · have hxy : x = y := by cases x; cases y; simp_all
        subst hxy
        simp [Op.eqFields, go_sem]
      · have hxy : ¬ x = y := fun e => h2 (by rw [e])
        have h3 : (x.t.toList == y.t.toList) = false := by
          rw [beq_eq_false_iff_ne]
          intro e
          rw [ByteArray.toList_eq, ByteArray.toList_eq] at e
          exact h2 (ByteArray.ext (Array.toList_inj.1 e))
        simp [Op.eqFields, go_sem, h0, h1, h3, hxy]
    · have hxy : ¬ x = y := fun e => h1 (by rw [e])
      simp [Op.eqFields, go_sem, h0, h1, hxy]
  · have hxy : ¬ x = y := fun e => h0 (by rw [e])
    simp [Op.eqFields, go_sem, h0, hxy]

theorem same_some (l m : List Ed) (b off cap b' off' cap' : Nat) (w : World) (hc : EditsAt w b off l) (hb : b < w.heap.size) (hcap : l.length ≤ cap) (hc' : EditsAt w b' off' m) (hb' : b' < w.heap.size) (hcap' : l.length ≤ cap') (hlm : m.length = l.length) (hm : l.length ≤ 100) (hl : 0 < l.length) :
    Calls Try.prog 16 #[.slice (some ⟨b, off, none⟩) l.length cap, .slice (some ⟨b', off', none⟩) l.length cap'] w fun e w' => e = .returned (.bool (decide (l = m))) ∧ Below w.heap.size w w' := by
  have H := Lib.hid hc
  have H' := Lib.hid hc'
  have HLM := Lib.hid hlm
  clear hc hc' hlm
  go_enter Try.func16, Try.ntmps16
  go_wp2
  go_loopw [5] (fun i wr => ∃ k : Nat, k ≤ l.length ∧ i = .int .i64 k ∧ Below w.heap.size w wr ∧ ∀ i, (h : i < l.length) → (h' : i < m.length) → i < k → l[i] = m[i]) (fun i _ => l.length - (intOf i).toNat)
  case atStart => exact ⟨0, by omega, rfl, Below.refl _ _, fun i _ _ h => absurd h (by omega)⟩
  case round =>
    obtain ⟨k, hk, rfl, rb, hd⟩ := hrel
    have HD := Lib.hid hd
    have rz := rb.size
    clear hd
    by_cases hlt : k < l.length
    · have hlt' : k < m.length := by rw [HLM.out]; exact hlt
      have e0 := (rb.cell (p := ⟨b, off + k * 3, none⟩) hb).trans (H.out k hlt).1
      have e1 := (rb.cell (p := ⟨b, off + k * 3 + 1, none⟩) hb).trans (H.out k hlt).2.1
      have e2 := (rb.cell (p := ⟨b, off + k * 3 + 2, none⟩) hb).trans (H.out k hlt).2.2
      have d0 := (rb.cell (p := ⟨b', off' + k * 3, none⟩) hb').trans (H'.out k hlt').1
      have d1 := (rb.cell (p := ⟨b', off' + k * 3 + 1, none⟩) hb').trans (H'.out k hlt').2.1
      have d2 := (rb.cell (p := ⟨b', off' + k * 3 + 2, none⟩) hb').trans (H'.out k hlt').2.2
      generalize hx : l[k] = x at *
      generalize hy : m[k] = y at *
      have HX := Lib.hid hx
      have HY := Lib.hid hy
      clear hx hy
      by_cases hxy : x = y
      · have E : ∀ w', (Op.equalIn 10000 55 (.agg #[.int .i64 x.a, .int .i64 x.e, .string x.t]) (.agg #[.int .i64 y.a, .int .i64 y.e, .string y.t])).run Try.prog w' = .ok true w' := fun w' => by rw [eq55]; simp [hxy]
        have HXY := Lib.hid hxy
        clear hxy
        go_wp2
        go_quiet (fail)
        go_wp2
        go_roundw
        case rel =>
          refine ⟨k + 1, by omega, by go_num, below_drewN rb _, fun i hi hi' hik => ?_⟩
          by_cases hi2 : i = k
          · subst hi2; rw [HX.out, HY.out]; exact HXY.out
          · exact HD.out i hi hi' (by omega)
        case measure => simp [intOf]; omega
      · have E : ∀ w', (Op.equalIn 10000 55 (.agg #[.int .i64 x.a, .int .i64 x.e, .string x.t]) (.agg #[.int .i64 y.a, .int .i64 y.e, .string y.t])).run Try.prog w' = .ok false w' := fun w' => by rw [eq55]; simp [hxy]
        have hd : decide (l = m) = false := by
          rw [decide_eq_false_iff_not]
          intro e
          subst e
          exact hxy (by rw [← HX.out, ← HY.out])
        have HDD := Lib.hid hd
        clear hd hxy
        go_wp2
        go_quiet (fail)
        go_wp2
        go_ret
        exact ⟨ret_bool HDD.out.symm, below_drewN rb _⟩
    · have hd : decide (l = m) = true := by
        rw [decide_eq_true_eq]
        refine List.ext_getElem HLM.out.symm fun i h1 h2 => HD.out i h1 h2 (by omega)
      have HDD := Lib.hid hd
      clear hd
      go_wp2
      go_ret
      exact ⟨ret_bool HDD.out.symm, rb⟩

theorem same_none (p q : Option Addr) (cap cap' : Nat) (w : World) :
    Calls Try.prog 16 #[.slice p 0 cap, .slice q 0 cap'] w fun e w' => e = .returned (.bool true) ∧ Below w.heap.size w w' := by
  go_enter Try.func16, Try.ntmps16
  go_wp2
  refine wp_loop_rounds 1 ?_
  rw [rounds_succ]
  go_wp2
  go_ret
  exact ⟨rfl, Below.refl _ _⟩

theorem same_long (p q : Option Addr) (n n' cap cap' : Nat) (h : n ≠ n') (w : World) :
    Calls Try.prog 16 #[.slice p n cap, .slice q n' cap'] w fun e w' => e = .returned (.bool false) ∧ Below w.heap.size w w' := by
  go_enter Try.func16, Try.ntmps16
  go_wp2
  go_ret
  exact ⟨rfl, Below.refl _ _⟩

theorem same_any (p q : Option Addr) (n n' cap cap' : Nat) (l m : List Ed) (w : World) (h : EditsIn w p n cap l) (h' : EditsIn w q n' cap' m) (hm : n ≤ 100) :
    Calls Try.prog 16 #[.slice p n cap, .slice q n' cap'] w fun e w' => e = .returned (.bool (decide (l = m))) ∧ Below w.heap.size w w' := by
  obtain ⟨hn, hr⟩ := h
  obtain ⟨hn', hr'⟩ := h'
  by_cases hnn : n = n'
  · subst hnn
    by_cases h0 : n = 0
    · have hl : l = [] := List.length_eq_zero_iff.1 (by omega)
      have hm : m = [] := List.length_eq_zero_iff.1 (by omega)
      subst hl hm h0
      exact (same_none p q cap cap' w).mono fun e w' ⟨he, hb⟩ => ⟨he, hb⟩
    · rcases hr with hr | ⟨b, off, rfl, hc, hb, hat⟩
      · omega
      · rcases hr' with hr' | ⟨b', off', rfl, hc', hb', hat'⟩
        · omega
        · subst hn
          exact same_some l m b off cap b' off' cap' w hat hb hc hat' hb' hc' hn'.symm hm (by omega)
  · have : decide (l = m) = false := by
      rw [decide_eq_false_iff_not]; intro e; subst e; omega
    rw [this]
    exact same_long p q n n' cap cap' hnn w
end Go.Proofs.Ytficgilapbmmpaa
