/-
  Whether rows are the same, whether a number stands in a row: walked.; Rows of pairs cut and put behind rows.
-/
import Derived.Test.YtagkpcnedccaiaaFQ
import Derived.BigQuiet
import Derived.Laws.StructEq
import Derived.WalkSpells
namespace Go.Proofs.Ytagkpcnedccaiaa
open Go.RowKit
set_option maxRecDepth 20000
set_option linter.unusedVariables false
set_option linter.unusedSimpArgs false

/-- A row of numbers. -/
def IS (w : World) (q : Option Addr) (n c : Nat) (l : List Int) : Prop :=
 n = l.length ∧ (n = 0 ∨ ∃ g o, q = some ⟨g, o, none⟩ ∧ n ≤ c ∧ g < w.heap.size ∧ ∀ i x, l[i]? = some x → w.cell? ⟨g, o + i, none⟩ = some (.int .i64 x))
theorem IS.step {w w1 : World} {q : Option Addr} {n c : Nat} {l : List Int} (h : IS w q n c l) (hw : Below w.heap.size w w1) : IS w1 q n c l := by
 obtain ⟨hn, h0 | ⟨g, o, hq, hc, hg, hat⟩⟩ := h
 ·exact ⟨hn, .inl h0⟩
 ·exact ⟨hn, .inr ⟨g, o, hq, hc, Nat.lt_of_lt_of_le hg hw.size, fun i x hi => (hw.cell (p := ⟨g, _, none⟩) hg).trans (hat i x hi)⟩⟩
theorem OwnI.is {w : World} {base : Nat} {v : Value} {l : List Int} (h : OwnI w base v l) : ∃ q n c, v = .slice q n c ∧ IS w q n c l := by
 rcases h.slice with ⟨rfl, rfl⟩ | ⟨g, c, rfl, hb, hg, hc⟩
 ·exact ⟨none, 0, 0, rfl, rfl, .inl rfl⟩
 ·refine ⟨some ⟨g, 0, none⟩, _, c, rfl, rfl, .inr ⟨g, 0, rfl, hc, hg, fun i x hi => ?_⟩⟩
  rw [Nat.zero_add]; exact h.cell i x hi

theorem bounded_any (p : Option Addr) (n c : Nat) (w : World) : Calls Try.prog 13 #[.slice p n c] w fun e w' => e = .returned (.bool (decide (n ≤ 60))) ∧ w = w' := by
 have hr : Hid (∀ b : Bool, b = decide ((n : Int) ≤ 60) → b = decide (n ≤ 60)) := Lib.hid fun b hb => by rw [hb]; congr 1; apply propext; omega
 go_enter Try.func13, Try.ntmps13
 go_wp2_with fail
 go_ret
 exact ⟨by rw [← hr.out _ rfl]; rfl, rfl⟩

set_option maxHeartbeats 8000000 in
theorem ints_any (p q : Option Addr) (n m c d : Nat) (l k : List Int) (w : World) (hp : IS w p n c l) (hq : IS w q m d k) (hn : n ≤ 1000) :
  Calls Try.prog 17 #[.slice p n c, .slice q m d] w fun e w' => e = .returned (.bool (decide (l = k))) ∧ Below w.heap.size w w' := by
 have HP := Lib.hid hp
 have HQ := Lib.hid hq
 have hl := hp.1
 have hk := hq.1
 by_cases hnm : n = m
 ·have hkl : Hid (l.length = n ∧ k.length = n) := Lib.hid (by omega)
  have HS : Hid (∀ i, i < n → l[i]? ≠ k[i]? → decide (l = k) = false) := Lib.hid fun i _ hne => by
   simp only [decide_eq_false_iff_not]; rintro rfl; exact hne rfl
  have HE : Hid ((∀ i, i < n → l[i]? = k[i]?) → decide (l = k) = true) := Lib.hid fun h => by
   simp only [decide_eq_true_eq]
   apply List.ext_getElem?
   intro i
   by_cases hi : i < n
   ·exact h i hi
   ·rw [List.getElem?_eq_none (by omega), List.getElem?_eq_none (by omega)]
  subst hnm
  have hnn : ((n : Int) != (n : Int)) = false := by simp
  clear hl hk hp hq
  go_enter Try.func17, Try.ntmps17
  go_wp2_with fail
  go_loopw [13] (fun i wr => ∃ j : Nat, j ≤ n ∧ i = .int .i64 j ∧ Hid (∀ x, x < j → l[x]? = k[x]?) ∧ Hid (Below w.heap.size w wr)) (fun i _ => n - (intOf i).toNat)
  case atStart => exact ⟨0, by omega, rfl, Lib.hid (fun x hx => by omega), Lib.hid (Below.refl _ _)⟩
  case round =>
   obtain ⟨j, hj, rfl, HX, HB⟩ := hrel
   by_cases hlt : j < n
   ·obtain ⟨hx1, h0 | ⟨g, o, rfl, hc, hg, hat⟩⟩ := HP.out
    ·omega
    obtain ⟨hx2, h0 | ⟨g2, o2, rfl, hc2, hg2, hat2⟩⟩ := HQ.out
    ·omega
    clear hx1 hx2
    obtain ⟨a, ha⟩ : ∃ a, l[j]? = some a := ⟨_, List.getElem?_eq_getElem (by have := hkl.out.1; omega)⟩
    obtain ⟨b, hb⟩ : ∃ b, k[j]? = some b := ⟨_, List.getElem?_eq_getElem (by have := hkl.out.2; omega)⟩
    have c0 : wr.cell? ⟨g, o + j, none⟩ = some (.int .i64 a) := (HB.out.cell (p := ⟨g, _, none⟩) hg).trans (hat j a ha)
    have c1 : wr.cell? ⟨g2, o2 + j, none⟩ = some (.int .i64 b) := (HB.out.cell (p := ⟨g2, _, none⟩) hg2).trans (hat2 j b hb)
    have g1 : g < wr.heap.size := Nat.lt_of_lt_of_le hg HB.out.size
    have g3 : g2 < wr.heap.size := Nat.lt_of_lt_of_le hg2 HB.out.size
    have r1 : (0 : Int) ≤ (j : Int) := by omega
    have r2 : (j : Int) < (n : Int) := by omega
    have HA := Lib.hid ha
    have HBb := Lib.hid hb
    clear hat hat2 ha hb
    by_cases hab : a = b
    ·have HX2 : Hid (∀ x, x < j + 1 → l[x]? = k[x]?) := Lib.hid fun x hx => by
      by_cases h : x = j
      ·subst h; rw [HA.out, HBb.out, hab]
      ·exact HX.out x (by omega)
     subst hab
     have hq : (a != a) = false := by simp
     go_wp2_with fail
     go_quiet (fail)
     go_wp2_with fail
     go_roundw
     case rel => exact ⟨j + 1, by omega, by go_num, HX2, Lib.hid (below_drewN HB.out _)⟩
     case measure => simp [intOf]; omega
    ·have HF := Lib.hid (HS.out j hlt (by rw [HA.out, HBb.out]; simpa using hab))
     have hq : (a != b) = true := by simpa using hab
     have hq2 : (a == b) = false := by simpa using hab
     clear hab
     go_wp2_with fail
     go_quiet (fail)
     go_wp2_with fail
     go_ret
     exact ⟨by rw [HF.out]; rfl, below_drewN HB.out _⟩
   ·have HF := Lib.hid (HE.out fun x hx => HX.out x (by omega))
    go_wp2_with fail
    go_ret
    exact ⟨by rw [HF.out]; rfl, HB.out⟩
 ·have HF : Hid (decide (l = k) = false) := Lib.hid (by simp only [decide_eq_false_iff_not]; rintro rfl; omega)
  have hnn : ((n : Int) != (m : Int)) = true := by simp; omega
  have hnn2 : ((n : Int) == (m : Int)) = false := by simp; omega
  clear hl hk hp hq hnm
  go_enter Try.func17, Try.ntmps17
  go_wp2_with fail
  go_ret
  exact ⟨by rw [HF.out]; rfl, Below.refl _ _⟩
theorem held48 : Try.prog.stoodInHeld 48 = false := by kernel_rfl
theorem part3_0' (a b : Value) (w : World) : (part 3 #[a, b] 0).run Try.prog w = .ok a w := by
 simp [part, Try.isAgg3, Result.andThen]
theorem part3_1' (a b : Value) (w : World) : (part 3 #[a, b] 1).run Try.prog w = .ok b w := by
 simp [part, Try.isAgg3, Result.andThen]
theorem eqI' (s t : Int) (w : World) : (Op.equalIn 9999 3 (.int .i64 s) (.int .i64 t)).run Try.prog w = .ok (decide (s = t)) w := by
 rw [show (9999 : Nat) = 9998 + 1 from rfl]
 unfold Op.equalIn
 by_cases h : s = t <;> simp [run_underlying Try.underlying3, Result.andThen, h]
theorem pair48_eq (a b : P2) (w : World) : (Op.equal 48 (.agg #[.int .i64 a.1, .int .i64 a.2]) (.agg #[.int .i64 b.1, .int .i64 b.2])).run Try.prog w = .ok (decide (a = b)) w := by
 obtain ⟨s, n⟩ := a
 obtain ⟨t, m⟩ := b
 unfold Op.equal Op.maxDepth
 rw [show (10000 : Nat) = 9999 + 1 from rfl]
 unfold Op.equalIn
 simp [run_underlying Try.underlying48, held48, Result.andThen, part3_0', part3_1', eqI']
 by_cases h : s = t <;> by_cases h2 : n = m <;> simp [h, h2, Result.andThen, part3_1', eqI']
theorem eql48 (a b : P2) (W : World) : (binOp .eql 48 (.agg #[.int .i64 a.1, .int .i64 a.2]) (.agg #[.int .i64 b.1, .int .i64 b.2])).run Try.prog W = .ok (.bool (decide (a = b))) W := by
 have := pair48_eq a b W
 simp only [binOp]
 simp [this]
theorem neq48 (a b : P2) (W : World) : (binOp .neq 48 (.agg #[.int .i64 a.1, .int .i64 a.2]) (.agg #[.int .i64 b.1, .int .i64 b.2])).run Try.prog W = .ok (.bool (!decide (a = b))) W := by
 have := pair48_eq a b W
 simp only [binOp]
 simp [this]
set_option maxHeartbeats 8000000 in
theorem pairs_any (p q : Option Addr) (n m c d : Nat) (l k : List P2) (w : World) (hp : PS w p n c l) (hq : PS w q m d k) (hn : n ≤ 1000) :
  Calls Try.prog 12 #[.slice p n c, .slice q m d] w fun e w' => e = .returned (.bool (decide (l = k))) ∧ Below w.heap.size w w' := by
 have HP := Lib.hid hp
 have HQ := Lib.hid hq
 have hl := hp.1
 have hk := hq.1
 by_cases hnm : n = m
 ·have hkl : Hid (l.length = n ∧ k.length = n) := Lib.hid (by omega)
  have HS : Hid (∀ i, i < n → l[i]? ≠ k[i]? → decide (l = k) = false) := Lib.hid fun i _ hne => by
   simp only [decide_eq_false_iff_not]; rintro rfl; exact hne rfl
  have HE : Hid ((∀ i, i < n → l[i]? = k[i]?) → decide (l = k) = true) := Lib.hid fun h => by
   simp only [decide_eq_true_eq]
   apply List.ext_getElem?
   intro i
   by_cases hi : i < n
   ·exact h i hi
   ·rw [List.getElem?_eq_none (by omega), List.getElem?_eq_none (by omega)]
  subst hnm
  have hnn : ((n : Int) != (n : Int)) = false := by simp
  clear hl hk hp hq
  go_enter Try.func12, Try.ntmps12
  go_wp2_with fail
  go_loopw [5] (fun i wr => ∃ j : Nat, j ≤ n ∧ i = .int .i64 j ∧ Hid (∀ x, x < j → l[x]? = k[x]?) ∧ Hid (Below w.heap.size w wr)) (fun i _ => n - (intOf i).toNat)
  case atStart => exact ⟨0, by omega, rfl, Lib.hid (fun x hx => by omega), Lib.hid (Below.refl _ _)⟩
  case round =>
   obtain ⟨j, hj, rfl, HX, HB⟩ := hrel
   by_cases hlt : j < n
   ·obtain ⟨hx1, h0 | ⟨g, o, rfl, hc, hg, hat⟩⟩ := HP.out
    ·omega
    obtain ⟨hx2, h0 | ⟨g2, o2, rfl, hc2, hg2, hat2⟩⟩ := HQ.out
    ·omega
    clear hx1 hx2
    obtain ⟨a, ha⟩ : ∃ a, l[j]? = some a := ⟨_, List.getElem?_eq_getElem (by have := hkl.out.1; omega)⟩
    obtain ⟨b, hb⟩ : ∃ b, k[j]? = some b := ⟨_, List.getElem?_eq_getElem (by have := hkl.out.2; omega)⟩
    have c0 : wr.cell? ⟨g, o + j * 2, none⟩ = some (.int .i64 a.1) := (HB.out.cell (p := ⟨g, _, none⟩) hg).trans (hat j a ha).1
    have c0' : wr.cell? ⟨g, o + j * 2 + 1, none⟩ = some (.int .i64 a.2) := (HB.out.cell (p := ⟨g, _, none⟩) hg).trans (hat j a ha).2
    have c1 : wr.cell? ⟨g2, o2 + j * 2, none⟩ = some (.int .i64 b.1) := (HB.out.cell (p := ⟨g2, _, none⟩) hg2).trans (hat2 j b hb).1
    have c1' : wr.cell? ⟨g2, o2 + j * 2 + 1, none⟩ = some (.int .i64 b.2) := (HB.out.cell (p := ⟨g2, _, none⟩) hg2).trans (hat2 j b hb).2
    have heq : ∀ W, (binOp .neq 48 (.agg #[.int .i64 a.1, .int .i64 a.2]) (.agg #[.int .i64 b.1, .int .i64 b.2])).run Try.prog W = .ok (.bool (!decide (a = b))) W := fun W => neq48 a b W
    have g1 : g < wr.heap.size := Nat.lt_of_lt_of_le hg HB.out.size
    have g3 : g2 < wr.heap.size := Nat.lt_of_lt_of_le hg2 HB.out.size
    have r1 : (0 : Int) ≤ (j : Int) := by omega
    have r2 : (j : Int) < (n : Int) := by omega
    have HA := Lib.hid ha
    have HBb := Lib.hid hb
    clear hat hat2 ha hb
    by_cases hab : a = b
    ·have HX2 : Hid (∀ x, x < j + 1 → l[x]? = k[x]?) := Lib.hid fun x hx => by
      by_cases h : x = j
      ·subst h; rw [HA.out, HBb.out, hab]
      ·exact HX.out x (by omega)
     subst hab
     simp only [decide_true, Bool.not_true] at heq
     go_wp2_with fail
     go_quiet (fail)
     go_wp2_with fail
     go_roundw
     case rel => exact ⟨j + 1, by omega, by go_num, HX2, Lib.hid (below_drewN HB.out _)⟩
     case measure => simp [intOf]; omega
    ·have HF := Lib.hid (HS.out j hlt (by rw [HA.out, HBb.out]; simpa using hab))
     simp only [hab, decide_false, Bool.not_false] at heq
     clear hab
     go_wp2_with fail
     go_quiet (fail)
     go_wp2_with fail
     go_ret
     exact ⟨by rw [HF.out]; rfl, below_drewN HB.out _⟩
   ·have HF := Lib.hid (HE.out fun x hx => HX.out x (by omega))
    go_wp2_with fail
    go_ret
    exact ⟨by rw [HF.out]; rfl, HB.out⟩
 ·have HF : Hid (decide (l = k) = false) := Lib.hid (by simp only [decide_eq_false_iff_not]; rintro rfl; omega)
  have hnn : ((n : Int) != (m : Int)) = true := by simp; omega
  have hnn2 : ((n : Int) == (m : Int)) = false := by simp; omega
  clear hl hk hp hq hnm
  go_enter Try.func12, Try.ntmps12
  go_wp2_with fail
  go_ret
  exact ⟨by rw [HF.out]; rfl, Below.refl _ _⟩

/-- Whether a number stands in a row. -/
def In34 (l : List Int) (x : Int) : Bool := inI l x
set_option maxHeartbeats 8000000 in
theorem in_any (p : Option Addr) (n c : Nat) (l : List Int) (x : Int) (w : World) (hp : IS w p n c l) (hn : n ≤ 5000) :
  Calls Try.prog 34 #[.slice p n c, .int .i64 x] w fun e w' => e = .returned (.bool (inI l x)) ∧ w = w' := by
 have HP := Lib.hid hp
 have hl := hp.1
 have HL := Lib.hid hl
 clear hp hl
 go_enter Try.func34, Try.ntmps34
 go_wp2_with fail
 go_loopw [5] (fun i wr => ∃ j : Nat, j ≤ n ∧ i = .int .i64 j ∧ Hid (∀ y ∈ l.take j, y ≠ x) ∧ wr = w) (fun i _ => n - (intOf i).toNat)
 case atStart => exact ⟨0, by omega, rfl, Lib.hid (fun y hy => by simp at hy), rfl⟩
 case round =>
  obtain ⟨j, hj, rfl, HX, rfl⟩ := hrel
  by_cases hlt : j < n
  ·obtain ⟨hx1, h0 | ⟨g, o, rfl, hc, hg, hat⟩⟩ := HP.out
   ·omega
   clear hx1
   obtain ⟨a, ha⟩ : ∃ a, l[j]? = some a := ⟨_, List.getElem?_eq_getElem (by have := HL.out; omega)⟩
   have c0 := hat j a ha
   have r1 : (0 : Int) ≤ (j : Int) := by omega
   have r2 : (j : Int) < (n : Int) := by omega
   have HA := Lib.hid ha
   clear hat ha
   by_cases hab : a = x
   ·have HF : Hid (inI l x = true) := Lib.hid ((inI_iff _ _).2 (by rw [← hab]; exact List.mem_of_getElem? HA.out))
    subst hab
    have hq : (a == a) = true := by simp
    go_wp2_with fail
    go_ret
    exact ⟨by rw [HF.out]; rfl, rfl⟩
   ·have HX2 : Hid (∀ y ∈ l.take (j + 1), y ≠ x) := Lib.hid fun y hy => by
     rw [List.take_add_one, HA.out] at hy
     rcases List.mem_append.1 hy with hy | hy
     ·exact HX.out y hy
     ·simp at hy; subst hy; exact hab
    have hq : (a == x) = false := by simpa using hab
    clear hab
    go_wp2_with fail
    go_roundw
    case rel => exact ⟨j + 1, by omega, by go_num, HX2, by trivial⟩
    case measure => simp [intOf]; omega
  ·have HF : Hid (inI l x = false) := Lib.hid (by
    cases h : inI l x with
    | false => rfl
    | true =>
     have := (inI_iff _ _).1 h
     have hx := HX.out
     rw [List.take_of_length_le (by have := HL.out; omega)] at hx
     exact absurd rfl (hx x this))
   go_wp2_with fail
   go_ret
   exact ⟨by rw [HF.out]; rfl, rfl⟩
end Go.Proofs.Ytagkpcnedccaiaa

namespace Go.Proofs.Ytagkpcnedccaiaa
open Go.RowKit
set_option maxRecDepth 20000
set_option linter.unusedVariables false
set_option linter.unusedSimpArgs false

theorem slice_from25 {w : World} {p : Option Addr} {n c : Nat} {l : List P2} (i : TypeInfo) (hi : Try.prog.info? 48 = some i) (hs : i.size = 2) (h : PS w p n c l) (k : Nat) (hk : k ≤ n) :
  ∃ p', (∀ w, (Instr.slice 25 (.slice p n c) (some (.int .i64 (k : Int))) none none).run Try.prog w = .ok (.slice p' (n - k) (c - k)) w) ∧ PS w p' (n - k) (c - k) (l.drop k) := by
 refine ⟨if c = k then p else p.map (fun x => x.add (k * 2)), fun w => ?_, ?_⟩
 ·have hc : n ≤ c ∨ n = 0 := by
   rcases h.2 with h0 | ⟨b, off, _, hc, _⟩
   ·exact .inr h0
   ·exact .inl hc
  have hkc : k ≤ c := by omega
  simp [Instr.slice, run_underlying Try.underlying25, Instr.sliceBounds, Instr.sliceBound, asIntOf, sizeOf, typeInfo, hi, hs, hk, go_sem]
 ·obtain ⟨hn, h0 | ⟨b, off, rfl, hc, hb, hat⟩⟩ := h
  ·refine ⟨by simp [hn], .inl (by omega)⟩
  ·by_cases hck : c = k
   ·rw [if_pos hck]
    exact ⟨by simp [hn], .inl (by omega)⟩
   ·rw [if_neg hck]
    have ha : Option.map (fun x : Addr => x.add (k * 2)) (some (⟨b, off, none⟩ : Addr)) = some ⟨b, off + k * 2, none⟩ := by
     simp only [Option.map_some, Option.some.injEq]
     unfold Addr.add; split <;> simp_all
    rw [ha]
    refine ⟨by simp [hn], .inr ⟨b, off + k * 2, rfl, by omega, hb, fun i p hi => ?_⟩⟩
    rw [List.getElem?_drop] at hi
    have := hat (k + i) p hi
    rwa [show off + (k + i) * 2 = off + k * 2 + i * 2 by omega] at this
theorem slice_to25 {w : World} {p : Option Addr} {n c : Nat} {l : List P2} (i : TypeInfo) (hi : Try.prog.info? 48 = some i) (hs : i.size = 2) (h : PS w p n c l) (k : Nat) (hk : k ≤ n) :
  (∀ w, (Instr.slice 25 (.slice p n c) none (some (.int .i64 (k : Int))) none).run Try.prog w = .ok (.slice p k c) w) ∧ PS w p k c (l.take k) := by
 constructor
 ·intro w
  have hc : n ≤ c ∨ n = 0 := by
   rcases h.2 with h0 | ⟨b, off, _, hc, _⟩
   ·exact .inr h0
   ·exact .inl hc
  have hkc : k ≤ c := by omega
  simp [Instr.slice, run_underlying Try.underlying25, Instr.sliceBounds, Instr.sliceBound, asIntOf, sizeOf, typeInfo, hi, hs, hk, hkc, go_sem]
 ·obtain ⟨hn, h0 | ⟨b, off, rfl, hc, hb, hat⟩⟩ := h
  ·exact ⟨by simp; omega, .inl (by omega)⟩
  ·refine ⟨by simp; omega, .inr ⟨b, off, rfl, by omega, hb, fun i p hi => ?_⟩⟩
   rw [List.getElem?_take] at hi
   split at hi
   ·exact hat i p hi
   ·cases hi
theorem run_append_none_any {P : Program} (w : World) (base : Nat) (t ty e : TypeId) (i : TypeInfo) (size : Nat) (ht : P.underlying t = some (.slice e)) (hi : P.info? e = some i)
  (v : Value) (n : Nat) (xs : List Value) (hown : w.ownsRow base e size v n xs) (c : Nat) :
  (Builtin.append_ #[t, t] ty #[v, .slice none 0 c]).run P w = .ok v w := by
 rcases hown.2 with ⟨rfl, rfl⟩ | ⟨g, cap, cur, rfl, _, _, hnc, _⟩
 ·simp [Builtin.append_, run_underlying ht, sizeOf, typeInfo, hi, Builtin.lenOf, Builtin.firstCells]
 ·simp [Builtin.append_, run_underlying ht, sizeOf, typeInfo, hi, Builtin.lenOf, Builtin.firstCells, hnc, storeCells]
theorem grown_same (w : World) (r : Option Nat) : w.grownBy w r := World.grownBy.refl w r
theorem ps_news {w : World} {b off m : Nat} {l : List P2} (hm : m = l.length) (hat : ∀ (i : Nat) (p : P2), l[i]? = some p → w.cell? ⟨b, off + i * 2, none⟩ = some (.int .i64 p.1) ∧ w.cell? ⟨b, off + i * 2 + 1, none⟩ = some (.int .i64 p.2)) :
  ∀ j u, (pcells l)[j]? = some u → w.cell? ((⟨b, off, none⟩ : Addr).add j) = some u := fun j u hu => by
 have hj : j < l.length * 2 := by rw [← pcells_length]; exact (List.getElem?_eq_some_iff.1 hu).1
 obtain ⟨p, hp⟩ : ∃ p, l[j / 2]? = some p := ⟨_, List.getElem?_eq_getElem (by omega)⟩
 obtain ⟨c0, c1⟩ := hat _ p hp
 have hg := pcells_get l (j / 2) p hp (j % 2) (Nat.mod_lt _ (by omega))
 rw [show j / 2 * 2 + j % 2 = j by omega, hu] at hg
 rw [addr_add']
 rcases Nat.lt_or_ge (j % 2) 1 with h1 | h1
 ·have e0 : j % 2 = 0 := by omega
  rw [e0] at hg
  rw [show off + j = off + j / 2 * 2 by omega, c0]
  exact hg.symm
 ·have e1 : j % 2 = 1 := by omega
  rw [e1] at hg
  rw [show off + j = off + j / 2 * 2 + 1 by omega, c1]
  exact hg.symm
theorem pcells_one (l : List P2) : ∀ u ∈ pcells l, u.oneCell' = true := fun u hu => by
 obtain ⟨p, _, h⟩ := List.mem_flatMap.1 hu
 exact onep p u h
theorem run_append_ps {P : Program} (w : World) (base : Nat) (t ty e : TypeId) (i : TypeInfo) (z : Value) (bytes : Nat) (ht : P.underlying t = some (.slice e)) (hi : P.info? e = some i) (hz : i.zero = some z)
  (hsize : i.size = 2) (hby : i.bytes = bytes) (hzs : z.cells.size = 2)
  (v : Value) (n : Nat) (xs : List Value) (hown : w.ownsRow base e 2 v n xs)
  (p : Option Addr) (m c : Nat) (l : List P2) (hin : PS w p m c l)
  (h63 : n + m ≤ maxLen) (hbytes : (n + m) * bytes ≤ 140737488355328) (hbase : base ≤ w.heap.size) :
  ∃ v' w', (Builtin.append_ #[t, t] ty #[v, .slice p m c]).run P w = .ok v' w' ∧ w'.ownsRow base e 2 v' (n + m) (xs ++ pcells l) ∧ w.grownBy w' v.ownBlock := by
 cases p with
 | none =>
  obtain ⟨hm, h0 | ⟨b, off, hp, _⟩⟩ := hin
  ·subst h0
   have : l = [] := List.length_eq_zero_iff.1 hm.symm
   subst this
   exact ⟨v, w, run_append_none_any w base t ty e i 2 ht hi v n xs hown c, by simpa [pcells] using hown, grown_same w _⟩
  ·simp at hp
 | some ad =>
  have hnews : ∀ j u, (pcells l)[j]? = some u → w.cell? (ad.add j) = some u := by
   obtain ⟨hm, h0 | ⟨b, off, hp, _, _, hat⟩⟩ := hin
   ·have : l = [] := List.length_eq_zero_iff.1 (by omega)
    subst this
    intro j u h; simp [pcells] at h
   ·obtain rfl : ad = ⟨b, off, none⟩ := by simpa using hp
    exact ps_news hm hat
  obtain ⟨v', w', h1, h2, h3, _⟩ := run_append_own (P := P) w base t ty e i z 2 bytes ht hi hz hsize hby hzs (by omega) v n xs hown ad m c (pcells l) (by rw [pcells_length, hin.1]) hnews (pcells_one l) h63 hbytes hbase
  exact ⟨v', w', h1, h2, h3⟩
theorem wpList_append_ps {P : Program} (w : World) {ops : Array Oper} {rest : List Oper} {o : Oper} {a : Act} {Q : Exit → Act → World → Prop} (hgd : o.guard = none) (s x : Operand) (t : TypeId)
  (ho : o.op = .call { callee := .builtin .append, args := #[s, x], argTypes := #[t, t] })
  (base : Nat) (e : TypeId) (i : TypeInfo) (z : Value) (bytes : Nat) (ht : P.underlying t = some (.slice e)) (hi : P.info? e = some i) (hz : i.zero = some z)
  (hsize : i.size = 2) (hby : i.bytes = bytes) (hzs : z.cells.size = 2)
  (v : Value) (n : Nat) (xs : List Value) (hs : a.eval s = v) (hown : w.ownsRow base e 2 v n xs)
  (p : Option Addr) (m c : Nat) (l : List P2) (hx : a.eval x = .slice p m c) (hin : PS w p m c l)
  (h63 : n + m ≤ maxLen) (hbytes : (n + m) * bytes ≤ 140737488355328) (hbase : base ≤ w.heap.size)
  (h : ∀ v' w', w'.ownsRow base e 2 v' (n + m) (xs ++ pcells l) → w.grownBy w' v.ownBlock → wpList P ops Q rest (a.put o.dst v') w') : wpList P ops Q (o :: rest) a w := by
 obtain ⟨v', w', hr, h2, h3⟩ := run_append_ps (P := P) w base t o.type e i z bytes ht hi hz hsize hby hzs v n xs hown p m c l hin h63 hbytes hbase
 refine wpList_plain hgd fun K hK => ?_
 unfold Oper.wp execOp
 simp only [ho, resolve, invoke, builtin, Sem.run_bind, Sem.run_pure, Result.andThen_ok, List.map_toArray, List.map_cons, List.map_nil, hs, hx, hr]
 exact hK _ _ (h v' w' h2 h3)
end Go.Proofs.Ytagkpcnedccaiaa
