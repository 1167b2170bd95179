/-
  The numbers below one of which what is asked is so (those), walked for any question.
-/
import Derived.Test.YtggoajpemffbiaaMpi
namespace Go.Proofs.Ytggoajpemffbiaa
open Go.RowKit
set_option maxRecDepth 20000
set_option linter.unusedVariables false
set_option linter.unusedSimpArgs false

/-- The numbers below n of which it is so. -/
def selN (p : Nat → Bool) (n : Nat) : List Int := ((List.range n).filter p).map fun (x : Nat) => (x : Int)
theorem selN_zero (p : Nat → Bool) : selN p 0 = [] := rfl
theorem selN_succ (p : Nat → Bool) (n : Nat) : selN p (n + 1) = selN p n ++ (bif p n then [(n : Int)] else []) := by
  unfold selN
  rw [List.range_succ, List.filter_append, List.map_append]
  cases h : p n <;> simp [h]
theorem selN_len (p : Nat → Bool) (n : Nat) : (selN p n).length ≤ n := by
  unfold selN
  have := List.length_filter_le p (List.range n)
  simpa using this
theorem mem_selN {p : Nat → Bool} {n : Nat} {x : Int} : x ∈ selN p n ↔ ∃ i : Nat, i < n ∧ p i = true ∧ x = (i : Int) := by
  unfold selN
  simp only [List.mem_map, List.mem_filter, List.mem_range]
  constructor
  · rintro ⟨i, ⟨h1, h2⟩, rfl⟩; exact ⟨i, h1, h2, rfl⟩
  · rintro ⟨i, h1, h2, rfl⟩; exact ⟨i, ⟨h1, h2⟩, rfl⟩
set_option maxHeartbeats 4000000 in
theorem those_any (fn : Nat) (cap : Array Value) (p : Nat → Bool) (N : Nat) (nI : Int) (w : World) (hN : N ≤ 1000) (hnI : nI = N ∨ (nI < 0 ∧ N = 0))
    (hcf : ∀ args w, Sem.run Try.prog (callFunc fn args) w = .ok (.enter fn args) w)
    (hask : ∀ (i : Nat) (W : World), i < N → Below w.heap.size w W → Calls Try.prog fn (#[.int .i64 i] ++ cap) W fun e w' => e = .returned (.bool (p i)) ∧ Below W.heap.size W w') :
    Calls Try.prog 23 #[.int .i64 nI, .func (.func fn) #[] cap] w fun e w' => ∃ v, e = .returned v ∧ OwnI w' w.heap.size v (selN p N) ∧ Below w.heap.size w w' := by
  obtain ⟨i3, hi3, hz0, hz1, hz2⟩ := info_parts info3
  have HASK := Lib.hid hask
  clear hask
  have HNI := Lib.hid hnI
  clear hnI
  go_enter Try.func23, Try.ntmps23
  go_wp2_with fail
  go_loopw [5, 8] (fun v i wr => ∃ k : Nat, k ≤ N ∧ i = .int .i64 k ∧ Hid (OwnI wr w.heap.size v (selN p k)) ∧ Hid (Below w.heap.size w wr)) (fun _ i _ => N - (intOf i).toNat)
  case atStart => exact ⟨0, by omega, rfl, Lib.hid (by rw [selN_zero]; exact OwnI.nil _ _), Lib.hid (Below.refl _ _)⟩
  case round =>
    obtain ⟨k, hk, rfl, HO, HB⟩ := hrel
    by_cases hlt : k < N
    · have hlt' : (k : Int) < nI := by rcases HNI.out with h | h <;> omega
      have HC := Lib.hid (HASK.out k wr hlt HB.out)
      cases hp : p k with
      | true =>
        have HS : Hid (selN p (k + 1) = selN p k ++ [(k : Int)]) := Lib.hid (by rw [selN_succ, hp]; rfl)
        rw [hp] at HC
        have HLN : Hid ((selN p k).length ≤ 1000) := Lib.hid (by have := selN_len p k; omega)
        have HP := Lib.hid hp
        clear hp
        go_wp2_with (first
          | (refine HC.out.mono ?_; rintro e w1 ⟨rfl, hb1⟩; have HB1 := Lib.hid (HB.out.trans (hb1.mono HB.out.size)); have HO1 : Hid ((w1.alloc (.cells #[.int .i64 k] 3)).ownsRow w.heap.size 3 1 u5 (selN p k).length ((selN p k).map (Value.int .i64))) := Lib.hid (World.ownsRow.alloc (HO.out.step hb1) _); clear hb1)
          | (at_builtin; refine wpList_append_own _ rfl _ _ 22 rfl w.heap.size 3 i3 (.int .i64 0) 1 8 Try.underlying22 hi3 hz0 hz1 hz2 rfl (by omega) _ _ _ rfl HO1.out ⟨w1.heap.size, 0, none⟩ 1 1 [.int .i64 k] rfl rfl (one_new _ _ _) (one_cell _ _) (by have := HLN.out; unfold maxLen; omega) (by have := HLN.out; omega) (by have := HB1.out.size; simp; omega) ?_; intro v' w2 hown hgrow hnil; have HO2 : Hid (OwnI w2 w.heap.size v' (selN p (k + 1))) := Lib.hid (by rw [HS.out]; exact OwnI.snoc hown); have HB2 := Lib.hid ((HB1.out.alloc HB1.out.size _).grown hgrow (by have := HB1.out.size; simp; omega) (fun j hj => (World.ownsRow.lt HO1.out j hj).1)); clear hown hgrow hnil))
        go_roundw
        case rel => exact ⟨k + 1, by omega, by go_num, HO2, HB2⟩
        case measure => simp [intOf]; omega
      | false =>
        have HS : Hid (selN p (k + 1) = selN p k) := Lib.hid (by rw [selN_succ, hp]; simp)
        rw [hp] at HC
        clear hp
        go_wp2_with (refine HC.out.mono ?_; rintro e w1 ⟨rfl, hb1⟩; have HB1 := Lib.hid (HB.out.trans (hb1.mono HB.out.size)); have HO1 : Hid (OwnI w1 w.heap.size u5 (selN p (k + 1))) := Lib.hid (by rw [HS.out]; exact HO.out.step hb1); clear hb1)
        go_roundw
        case rel => exact ⟨k + 1, by omega, by go_num, HO1, HB1⟩
        case measure => simp [intOf]; omega
    · have hkn : k = N := by omega
      have hge : ¬ (k : Int) < nI := by rcases HNI.out with h | h <;> omega
      have HO1 : Hid (OwnI wr w.heap.size u5 (selN p N)) := Lib.hid (by have := HO.out; rwa [hkn] at this)
      clear hkn hlt
      go_wp2_with fail
      go_ret
      exact ⟨_, rfl, HO1.out, HB.out⟩
end Go.Proofs.Ytggoajpemffbiaa
