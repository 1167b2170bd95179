/-
  Pairs and Ints: of two rows that read as the same list they tell true.
-/
import Derived.Test.YtficgilapbmmpaaStandsH
namespace Go.Proofs.Ytficgilapbmmpaa
open Go.RowKit
set_option linter.unusedVariables false

theorem eq53 (x y : Int) (w : World) : (Op.equalIn 10000 53 (.agg #[.int .i64 x, .int .i64 y]) (.agg #[.int .i64 x, .int .i64 y])).run Try.prog w = .ok true w := by
  rw [run_equalIn_agg w 9999 53 _ _ (by kernel_rfl) (by kernel_rfl)]
  unfold Program.fieldsOf
  rw [Try.underlying53]
  simp [Op.eqFields, go_sem]

theorem pairs_some (R : List Str) (g g' c c' : Nat) (w : World) (hp : PairsAt w g R) (hp' : PairsAt w g' R) (hg : g < w.heap.size) (hg' : g' < w.heap.size) (hc : R.length ≤ c) (hc' : R.length ≤ c') (hm : R.length ≤ 1000) :
    Calls Try.prog 23 #[.slice (some ⟨g, 0, none⟩) R.length c, .slice (some ⟨g', 0, none⟩) R.length c'] w fun e w' => e = .returned (.bool true) ∧ Below w.heap.size w w' := by
  have H := Lib.hid hp
  have H' := Lib.hid hp'
  clear hp hp'
  go_enter Try.func23, Try.ntmps23
  go_wp2
  go_loopw [5] (fun i wr => ∃ k : Nat, k ≤ R.length ∧ i = .int .i64 k ∧ Below w.heap.size w wr) (fun i _ => R.length - (intOf i).toNat)
  case atStart => exact ⟨0, by omega, rfl, Below.refl _ _⟩
  case round =>
    obtain ⟨k, hk, rfl, rb⟩ := hrel
    have rz := rb.size
    by_cases hlt : k < R.length
    · have e0 := (rb.cell (p := ⟨g, k * 2, none⟩) hg).trans (H.out k hlt).1
      have e1 := (rb.cell (p := ⟨g, k * 2 + 1, none⟩) hg).trans (H.out k hlt).2
      have d0 := (rb.cell (p := ⟨g', k * 2, none⟩) hg').trans (H'.out k hlt).1
      have d1 := (rb.cell (p := ⟨g', k * 2 + 1, none⟩) hg').trans (H'.out k hlt).2
      generalize R[k].a = x at *
      generalize R[k].b = y at *
      have E : ∀ w', (Op.equalIn 10000 53 (.agg #[.int .i64 x, .int .i64 y]) (.agg #[.int .i64 x, .int .i64 y])).run Try.prog w' = .ok true w' := eq53 x y
      go_wp2
      go_quiet (fail)
      go_wp2
      go_roundw
      case rel => exact ⟨k + 1, by omega, by go_num, below_drewN rb _⟩
      case measure => simp [intOf]; omega
    · go_wp2
      go_ret
      exact ⟨rfl, rb⟩

theorem pairs_none (p q : Option Addr) (c c' : Nat) (w : World) :
    Calls Try.prog 23 #[.slice p 0 c, .slice q 0 c'] w fun e w' => e = .returned (.bool true) ∧ Below w.heap.size w w' := by
  go_enter Try.func23, Try.ntmps23
  go_wp2
  refine wp_loop_rounds 1 ?_
  rw [rounds_succ]
  go_wp2
  go_ret
  exact ⟨rfl, Below.refl _ _⟩

theorem pairs_any (R : List Str) (v v' : Value) (base base' : Nat) (w : World) (h : w.ownsRow base 53 2 v (pairsOf R).length (pairCells (pairsOf R))) (h' : w.ownsRow base' 53 2 v' (pairsOf R).length (pairCells (pairsOf R))) (hm : R.length ≤ 1000) :
    Calls Try.prog 23 #[v, v'] w fun e w' => e = .returned (.bool true) ∧ Below w.heap.size w w' := by
  by_cases hR : 0 < R.length
  · obtain ⟨g, c, rfl, hc, hg, hp⟩ := pairs_of_row h hR
    obtain ⟨g', c', rfl, hc', hg', hp'⟩ := pairs_of_row h' hR
    exact pairs_some R g g' c c' w hp hp' hg hg' hc hc' hm
  · have hR0 : R = [] := List.length_eq_zero_iff.1 (by omega)
    subst hR0
    obtain ⟨p, c, rfl⟩ := none_of_row h
    obtain ⟨q, c', rfl⟩ := none_of_row h'
    exact pairs_none p q c c' w

theorem ints_some (R : List Str) (g g' c c' : Nat) (w : World) (hp : IntsAt w g R) (hp' : IntsAt w g' R) (hg : g < w.heap.size) (hg' : g' < w.heap.size) (hc : R.length ≤ c) (hc' : R.length ≤ c') (hm : R.length ≤ 1000) :
    Calls Try.prog 24 #[.slice (some ⟨g, 0, none⟩) R.length c, .slice (some ⟨g', 0, none⟩) R.length c'] w fun e w' => e = .returned (.bool true) ∧ Below w.heap.size w w' := by
  have H := Lib.hid hp
  have H' := Lib.hid hp'
  clear hp hp'
  go_enter Try.func24, Try.ntmps24
  go_wp2
  go_loopw [13] (fun i wr => ∃ k : Nat, k ≤ R.length ∧ i = .int .i64 k ∧ Below w.heap.size w wr) (fun i _ => R.length - (intOf i).toNat)
  case atStart => exact ⟨0, by omega, rfl, Below.refl _ _⟩
  case round =>
    obtain ⟨k, hk, rfl, rb⟩ := hrel
    have rz := rb.size
    by_cases hlt : k < R.length
    · have e0 := (rb.cell (p := ⟨g, k, none⟩) hg).trans (H.out k hlt)
      have d0 := (rb.cell (p := ⟨g', k, none⟩) hg').trans (H'.out k hlt)
      generalize R[k].t = x at *
      go_wp2
      go_quiet (fail)
      go_wp2
      go_roundw
      case rel => exact ⟨k + 1, by omega, by go_num, below_drewN rb _⟩
      case measure => simp [intOf]; omega
    · go_wp2
      go_ret
      exact ⟨rfl, rb⟩

theorem ints_none (p q : Option Addr) (c c' : Nat) (w : World) :
    Calls Try.prog 24 #[.slice p 0 c, .slice q 0 c'] w fun e w' => e = .returned (.bool true) ∧ Below w.heap.size w w' := by
  go_enter Try.func24, Try.ntmps24
  go_wp2
  refine wp_loop_rounds 1 ?_
  rw [rounds_succ]
  go_wp2
  go_ret
  exact ⟨rfl, Below.refl _ _⟩

theorem ints_any (R : List Str) (v v' : Value) (base base' : Nat) (w : World) (h : w.ownsRow base 3 1 v (placesOf R).length (intCells (placesOf R))) (h' : w.ownsRow base' 3 1 v' (placesOf R).length (intCells (placesOf R))) (hm : R.length ≤ 1000) :
    Calls Try.prog 24 #[v, v'] w fun e w' => e = .returned (.bool true) ∧ Below w.heap.size w w' := by
  by_cases hR : 0 < R.length
  · obtain ⟨g, c, rfl, hc, hg, hp⟩ := ints_of_row h hR
    obtain ⟨g', c', rfl, hc', hg', hp'⟩ := ints_of_row h' hR
    exact ints_some R g g' c c' w hp hp' hg hg' hc hc' hm
  · have hR0 : R = [] := List.length_eq_zero_iff.1 (by omega)
    subst hR0
    obtain ⟨p, c, rfl⟩ := none_of_row h
    obtain ⟨q, c', rfl⟩ := none_of_row h'
    exact ints_none p q c c' w
end Go.Proofs.Ytficgilapbmmpaa
