/-
  Whether rows are the same, whether a number stands in a row: walked.
-/
import Derived.Test.YtggoajpemffbiaaRw
import Derived.BigQuiet
import Derived.Laws.StructEq
namespace Go.Proofs.Ytggoajpemffbiaa
open Go.RowKit
set_option maxRecDepth 20000
set_option linter.unusedVariables false
set_option linter.unusedSimpArgs false

/-- A row of numbers. -/
def IS (w : World) (q : Option Addr) (n c : Nat) (l : List Int) : Prop :=
  n = l.length ∧ (n = 0 ∨ ∃ g o, q = some ⟨g, o, none⟩ ∧ n ≤ c ∧ g < w.heap.size ∧ ∀ i x, l[i]? = some x → w.cell? ⟨g, o + i, none⟩ = some (.int .i64 x))
theorem IS.step {w w1 : World} {q : Option Addr} {n c : Nat} {l : List Int} (h : IS w q n c l) (hw : Below w.heap.size w w1) : IS w1 q n c l := by
  obtain ⟨hn, h0 | ⟨g, o, hq, hc, hg, hat⟩⟩ := h
  · exact ⟨hn, .inl h0⟩
  · exact ⟨hn, .inr ⟨g, o, hq, hc, Nat.lt_of_lt_of_le hg hw.size, fun i x hi => (hw.cell (p := ⟨g, _, none⟩) hg).trans (hat i x hi)⟩⟩
theorem OwnI.is {w : World} {base : Nat} {v : Value} {l : List Int} (h : OwnI w base v l) : ∃ q n c, v = .slice q n c ∧ IS w q n c l := by
  rcases h.slice with ⟨rfl, rfl⟩ | ⟨g, c, rfl, hb, hg, hc⟩
  · exact ⟨none, 0, 0, rfl, rfl, .inl rfl⟩
  · refine ⟨some ⟨g, 0, none⟩, _, c, rfl, rfl, .inr ⟨g, 0, rfl, hc, hg, fun i x hi => ?_⟩⟩
    rw [Nat.zero_add]; exact h.cell i x hi

set_option maxHeartbeats 8000000 in
theorem ints_any (p q : Option Addr) (n m c d : Nat) (l k : List Int) (w : World) (hp : IS w p n c l) (hq : IS w q m d k) (hn : n ≤ 1000) :
    Calls Try.prog 11 #[.slice p n c, .slice q m d] w fun e w' => e = .returned (.bool (decide (l = k))) ∧ Below w.heap.size w w' := by
  have HP := Lib.hid hp
  have HQ := Lib.hid hq
  have hl := hp.1
  have hk := hq.1
  by_cases hnm : n = m
  · have hkl : Hid (l.length = n ∧ k.length = n) := Lib.hid (by omega)
    have HS : Hid (∀ i, i < n → l[i]? ≠ k[i]? → decide (l = k) = false) := Lib.hid fun i _ hne => by
      simp only [decide_eq_false_iff_not]; rintro rfl; exact hne rfl
    have HE : Hid ((∀ i, i < n → l[i]? = k[i]?) → decide (l = k) = true) := Lib.hid fun h => by
      simp only [decide_eq_true_eq]
      apply List.ext_getElem?
      intro i
      by_cases hi : i < n
      · exact h i hi
      · rw [List.getElem?_eq_none (by omega), List.getElem?_eq_none (by omega)]
    subst hnm
    have hnn : ((n : Int) != (n : Int)) = false := by simp
    clear hl hk hp hq
    go_enter Try.func11, Try.ntmps11
    go_wp2_with fail
    go_loopw [13] (fun i wr => ∃ j : Nat, j ≤ n ∧ i = .int .i64 j ∧ Hid (∀ x, x < j → l[x]? = k[x]?) ∧ Hid (Below w.heap.size w wr)) (fun i _ => n - (intOf i).toNat)
    case atStart => exact ⟨0, by omega, rfl, Lib.hid (fun x hx => by omega), Lib.hid (Below.refl _ _)⟩
    case round =>
      obtain ⟨j, hj, rfl, HX, HB⟩ := hrel
      by_cases hlt : j < n
      · obtain ⟨hx1, h0 | ⟨g, o, rfl, hc, hg, hat⟩⟩ := HP.out
        · omega
        obtain ⟨hx2, h0 | ⟨g2, o2, rfl, hc2, hg2, hat2⟩⟩ := HQ.out
        · omega
        clear hx1 hx2
        obtain ⟨a, ha⟩ : ∃ a, l[j]? = some a := ⟨_, List.getElem?_eq_getElem (by have := hkl.out.1; omega)⟩
        obtain ⟨b, hb⟩ : ∃ b, k[j]? = some b := ⟨_, List.getElem?_eq_getElem (by have := hkl.out.2; omega)⟩
        have c0 : wr.cell? ⟨g, o + j, none⟩ = some (.int .i64 a) := (HB.out.cell (p := ⟨g, _, none⟩) hg).trans (hat j a ha)
        have c1 : wr.cell? ⟨g2, o2 + j, none⟩ = some (.int .i64 b) := (HB.out.cell (p := ⟨g2, _, none⟩) hg2).trans (hat2 j b hb)
        have g1 : g < wr.heap.size := Nat.lt_of_lt_of_le hg HB.out.size
        have g3 : g2 < wr.heap.size := Nat.lt_of_lt_of_le hg2 HB.out.size
        have r1 : (0 : Int) ≤ (j : Int) := by omega
        have r2 : (j : Int) < (n : Int) := by omega
        have HA := Lib.hid ha
        have HBb := Lib.hid hb
        clear hat hat2 ha hb
        by_cases hab : a = b
        · have HX2 : Hid (∀ x, x < j + 1 → l[x]? = k[x]?) := Lib.hid fun x hx => by
            by_cases h : x = j
            · subst h; rw [HA.out, HBb.out, hab]
            · exact HX.out x (by omega)
          subst hab
          have hq : (a != a) = false := by simp
          go_wp2_with fail
          go_quiet (fail)
          go_wp2_with fail
          go_roundw
          case rel => exact ⟨j + 1, by omega, by go_num, HX2, Lib.hid (below_drewN HB.out _)⟩
          case measure => simp [intOf]; omega
        · have HF := Lib.hid (HS.out j hlt (by rw [HA.out, HBb.out]; simpa using hab))
          have hq : (a != b) = true := by simpa using hab
          have hq2 : (a == b) = false := by simpa using hab
          clear hab
          go_wp2_with fail
          go_quiet (fail)
          go_wp2_with fail
          go_ret
          exact ⟨by rw [HF.out]; rfl, below_drewN HB.out _⟩
      · have HF := Lib.hid (HE.out fun x hx => HX.out x (by omega))
        go_wp2_with fail
        go_ret
        exact ⟨by rw [HF.out]; rfl, HB.out⟩
  · have HF : Hid (decide (l = k) = false) := Lib.hid (by simp only [decide_eq_false_iff_not]; rintro rfl; omega)
    have hnn : ((n : Int) != (m : Int)) = true := by simp; omega
    have hnn2 : ((n : Int) == (m : Int)) = false := by simp; omega
    clear hl hk hp hq hnm
    go_enter Try.func11, Try.ntmps11
    go_wp2_with fail
    go_ret
    exact ⟨by rw [HF.out]; rfl, Below.refl _ _⟩
theorem held48 : Try.prog.stoodInHeld 40 = false := by kernel_rfl
theorem part3_0' (a b : Value) (w : World) : (part 3 #[a, b] 0).run Try.prog w = .ok a w := by
  simp [part, Try.isAgg3, Result.andThen]
theorem part3_1' (a b : Value) (w : World) : (part 3 #[a, b] 1).run Try.prog w = .ok b w := by
  simp [part, Try.isAgg3, Result.andThen]
theorem eqI' (s t : Int) (w : World) : (Op.equalIn 9999 3 (.int .i64 s) (.int .i64 t)).run Try.prog w = .ok (decide (s = t)) w := by
  rw [show (9999 : Nat) = 9998 + 1 from rfl]
  unfold Op.equalIn
  by_cases h : s = t <;> simp [run_underlying Try.underlying3, Result.andThen, h]
theorem pair48_eq (a b : P2) (w : World) : (Op.equal 40 (.agg #[.int .i64 a.1, .int .i64 a.2]) (.agg #[.int .i64 b.1, .int .i64 b.2])).run Try.prog w = .ok (decide (a = b)) w := by
  obtain ⟨s, n⟩ := a
  obtain ⟨t, m⟩ := b
  unfold Op.equal Op.maxDepth
  rw [show (10000 : Nat) = 9999 + 1 from rfl]
  unfold Op.equalIn
  simp [run_underlying Try.underlying40, held48, Result.andThen, part3_0', part3_1', eqI']
  by_cases h : s = t <;> by_cases h2 : n = m <;> simp [h, h2, Result.andThen, part3_1', eqI']
theorem eql48 (a b : P2) (W : World) : (binOp .eql 40 (.agg #[.int .i64 a.1, .int .i64 a.2]) (.agg #[.int .i64 b.1, .int .i64 b.2])).run Try.prog W = .ok (.bool (decide (a = b))) W := by
  have := pair48_eq a b W
  simp only [binOp]
  simp [this]
theorem neq48 (a b : P2) (W : World) : (binOp .neq 40 (.agg #[.int .i64 a.1, .int .i64 a.2]) (.agg #[.int .i64 b.1, .int .i64 b.2])).run Try.prog W = .ok (.bool (!decide (a = b))) W := by
  have := pair48_eq a b W
  simp only [binOp]
  simp [this]
/-- Whether a number stands in a row. -/
def In34 (l : List Int) (x : Int) : Bool := inI l x
set_option maxHeartbeats 8000000 in
theorem in_any (p : Option Addr) (n c : Nat) (l : List Int) (x : Int) (w : World) (hp : IS w p n c l) (hn : n ≤ 5000) :
    Calls Try.prog 15 #[.slice p n c, .int .i64 x] w fun e w' => e = .returned (.bool (inI l x)) ∧ w = w' := by
  have HP := Lib.hid hp
  have hl := hp.1
  have HL := Lib.hid hl
  clear hp hl
  go_enter Try.func15, Try.ntmps15
  go_wp2_with fail
  go_loopw [5] (fun i wr => ∃ j : Nat, j ≤ n ∧ i = .int .i64 j ∧ Hid (∀ y ∈ l.take j, y ≠ x) ∧ wr = w) (fun i _ => n - (intOf i).toNat)
  case atStart => exact ⟨0, by omega, rfl, Lib.hid (fun y hy => by simp at hy), rfl⟩
  case round =>
    obtain ⟨j, hj, rfl, HX, rfl⟩ := hrel
    by_cases hlt : j < n
    · obtain ⟨hx1, h0 | ⟨g, o, rfl, hc, hg, hat⟩⟩ := HP.out
      · omega
      clear hx1
      obtain ⟨a, ha⟩ : ∃ a, l[j]? = some a := ⟨_, List.getElem?_eq_getElem (by have := HL.out; omega)⟩
      have c0 := hat j a ha
      have r1 : (0 : Int) ≤ (j : Int) := by omega
      have r2 : (j : Int) < (n : Int) := by omega
      have HA := Lib.hid ha
      clear hat ha
      by_cases hab : a = x
      · have HF : Hid (inI l x = true) := Lib.hid ((inI_iff _ _).2 (by rw [← hab]; exact List.mem_of_getElem? HA.out))
        subst hab
        have hq : (a == a) = true := by simp
        go_wp2_with fail
        go_ret
        exact ⟨by rw [HF.out]; rfl, rfl⟩
      · have HX2 : Hid (∀ y ∈ l.take (j + 1), y ≠ x) := Lib.hid fun y hy => by
          rw [List.take_add_one, HA.out] at hy
          rcases List.mem_append.1 hy with hy | hy
          · exact HX.out y hy
          · simp at hy; subst hy; exact hab
        have hq : (a == x) = false := by simpa using hab
        clear hab
        go_wp2_with fail
        go_roundw
        case rel => exact ⟨j + 1, by omega, by go_num, HX2, by trivial⟩
        case measure => simp [intOf]; omega
    · have HF : Hid (inI l x = false) := Lib.hid (by
        cases h : inI l x with
        | false => rfl
        | true =>
          have := (inI_iff _ _).1 h
          have hx := HX.out
          rw [List.take_of_length_le (by have := HL.out; omega)] at hx
          exact absurd rfl (hx x this))
      go_wp2_with fail
      go_ret
      exact ⟨by rw [HF.out]; rfl, rfl⟩
end Go.Proofs.Ytggoajpemffbiaa
