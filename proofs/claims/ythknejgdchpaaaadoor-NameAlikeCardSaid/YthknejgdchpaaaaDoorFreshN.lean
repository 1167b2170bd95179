/-
  Fresh names: what they are, and their letters.
-/
import Derived.Test.YthknejgdchpaaaaDoorAlike
import Derived.Test.YthknejgdchpaaaaDoorSpace
import Derived.Maps.OwnSet
import Derived.Laws.Concat
namespace Go.Proofs.YthknejgdchpaaaaDoor
open Go.RowKit
set_option linter.unusedVariables false
set_option linter.unusedSimpArgs false

def isLow (p : Int) : Bool := p == 1 || p == 3
def isUp (p : Int) : Bool := p == 2 || p == 4 || p == 5 || p == 6
def letT (p : Int) : ByteArray := bif isLow p then ⟨#[120, 121, 122]⟩ else bif isUp p then ⟨#[88, 89, 90]⟩ else ⟨#[]⟩
theorem letters_any (p : Int) (w : World) : Calls Tryd.prog 37 #[.int .i64 p] w fun e w' => e = .returned (.string (letT p)) ∧ w = w' := by
  by_cases h1 : p = 1
  · subst h1; go_enter Tryd.func37, Tryd.ntmps37; go_wp2; go_ret; exact ⟨rfl, rfl⟩
  by_cases h2 : p = 2
  · subst h2; go_enter Tryd.func37, Tryd.ntmps37; go_wp2; go_ret; exact ⟨rfl, rfl⟩
  by_cases h3 : p = 3
  · subst h3; go_enter Tryd.func37, Tryd.ntmps37; go_wp2; go_ret; exact ⟨rfl, rfl⟩
  by_cases h4 : p = 4
  · subst h4; go_enter Tryd.func37, Tryd.ntmps37; go_wp2; go_ret; exact ⟨rfl, rfl⟩
  by_cases h5 : p = 5
  · subst h5; go_enter Tryd.func37, Tryd.ntmps37; go_wp2; go_ret; exact ⟨rfl, rfl⟩
  by_cases h6 : p = 6
  · subst h6; go_enter Tryd.func37, Tryd.ntmps37; go_wp2; go_ret; exact ⟨rfl, rfl⟩
  have HS : Hid (letT p = ⟨#[]⟩) := Lib.hid (by unfold letT isLow isUp; simp only [beq_eq_false_iff_ne.2 h1, beq_eq_false_iff_ne.2 h2, beq_eq_false_iff_ne.2 h3, beq_eq_false_iff_ne.2 h4, beq_eq_false_iff_ne.2 h5, beq_eq_false_iff_ne.2 h6]; rfl)
  go_enter Tryd.func37, Tryd.ntmps37
  go_wp2
  go_ret
  exact ⟨by rw [HS.out]; rfl, rfl⟩

theorem dd_one (q : Nat) (h : q < 10) : Lib.decDigits q = [UInt8.ofNat (48 + q)] := by
  unfold Lib.decDigits; rw [dif_pos h]
theorem dd_two (q : Nat) (h : 10 ≤ q) (h2 : q < 100) : Lib.decDigits q = [UInt8.ofNat (48 + q / 10), UInt8.ofNat (48 + q % 10)] := by
  unfold Lib.decDigits; rw [dif_neg (by omega), dd_one _ (by omega)]; rfl
theorem dd_len (q : Nat) (h : q < 100) : (Lib.decDigits q).length ≤ 2 := by
  by_cases h1 : q < 10
  · rw [dd_one q h1]; simp
  · rw [dd_two q (by omega) h]; simp
theorem app_nil (a : ByteArray) : a ++ (⟨#[]⟩ : ByteArray) = a := by
  rw [← Lib.mk_data (a ++ ⟨#[]⟩), ByteArray.data_append]; simp
theorem add_run (a b : ByteArray) (ha : a.size ≤ 1000000) (hb : b.size ≤ 1000000) (w : World) : (Op.stringOp .add a b).run Tryd.prog w = .ok (.string (a ++ b)) w :=
  run_string_add_sum w a b (by omega)
/-- A call that leaves the world alone, in a region that draws, where draws have gone ahead. -/
theorem still {f : FuncId} {xs : Array Value} {W : World} {j m : Nat} {x : Value} (h : ∀ u, Calls Tryd.prog f xs u fun e u' => e = .returned x ∧ u' = u) :
    Calls Tryd.prog f xs (W.drewN (j + m)) fun e u' => e = .returned x ∧ ∃ i, u' = W.drewN (j + i) :=
  (h _).mono fun _ _ hu => ⟨hu.1, m, hu.2⟩
/-- Fresh name n of a round of three letters. -/
def frT (L : ByteArray) (n : Nat) : ByteArray := L.extract (n % 3) (n % 3 + 1) ++ (if n / 3 = 0 then ⟨#[]⟩ else ⟨(Lib.decDigits (n / 3)).toArray⟩)
theorem freshName_any (L : ByteArray) (n : Nat) (w : World) (hL : L.size = 3) (hn : n < 300) : Calls Tryd.prog 38 #[.string L, .int .i64 (n : Int)] w fun e w' => e = .returned (.string (frT L n)) ∧ ∃ d, w' = w.drewN d := by
  have h1 : ((n : Int) / 3) = ((n / 3 : Nat) : Int) := by omega
  have h2 : ((n : Int) % 3) = ((n % 3 : Nat) : Int) := by omega
  have H := Tryd.strconv_Itoa_small (n / 3) (by omega)
  have hq : n / 3 < 100 := by omega
  have hr : n % 3 < 3 := by omega
  have HF : Hid (frT L n = L.extract (n % 3) (n % 3 + 1) ++ (if n / 3 = 0 then ⟨#[]⟩ else ⟨(Lib.decDigits (n / 3)).toArray⟩)) := Lib.hid rfl
  have hsl : ∀ r : Nat, r < 3 → ∀ w, (Instr.slice 9 (.string L) (some (.int .i64 (r : Int))) (some (.int .i64 ((r : Int) + 1))) none).run Tryd.prog w = .ok (.string (L.extract r (r + 1))) w := fun r h w => by
    have := run_slice_string (P := Tryd.prog) (w := w) 9 L .i64 .i64 (r : Int) ((r : Int) + 1) Tryd.underlying9 (by omega) (by omega) (by omega)
    simpa using this
  have hsl := hsl _ hr
  by_cases h0 : n / 3 = 0
  · rw [h0] at H HF h1
    rw [if_pos rfl] at HF
    generalize n % 3 = r at *
    clear h0 hq H
    go_enter Tryd.func38, Tryd.ntmps38
    go_wp2
    go_quiet (fail)
    go_wp2
    go_ret
    refine ⟨?_, _, rfl⟩
    rw [HF.out, app_nil]
    rfl
  · rw [if_neg h0] at HF
    generalize n % 3 = r at *
    generalize n / 3 = q at *
    have hz : ((q : Int) == 0) = false := by rw [beq_eq_false_iff_ne]; omega
    have hadd := add_run (L.extract r (r + 1)) ⟨(Lib.decDigits q).toArray⟩ (by simp; omega) (by have := dd_len q hq; simp [ByteArray.size]; omega)
    have hw1 : IntKind.i64.wrap ((r : Int) + 1) = (r : Int) + 1 := IntWalk.i64_in _ (by omega)
    go_enter Tryd.func38, Tryd.ntmps38
    go_wp2
    go_quiet (fail)
    go_wp2
    go_quiet ((go_at_call 44; exact still H))
    go_wp2
    go_ret
    refine ⟨?_, _, World.drewN_drewN _ _ _⟩
    rw [HF.out]
    rfl
end Go.Proofs.YthknejgdchpaaaaDoor
