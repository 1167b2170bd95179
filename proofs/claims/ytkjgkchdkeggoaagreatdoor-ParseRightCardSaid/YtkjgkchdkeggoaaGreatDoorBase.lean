/-
  What all walks of this seat share: bytes and their kinds, rows of texts as they lie in memory.
-/
import Derived.Test.YtkjgkchdkeggoaaGreatDoorRows
import Derived.WalkKit
import Derived.WalkLawsBesides
import Derived.Below
import Derived.Deep.Draws
import Derived.Lib.Hide
import Derived.Handy
import Derived.RegionTactic
import Derived.ChangeAlike
import Derived.Deep.QuietTactic
import Derived.BigQuiet
import Derived.Laws.AppendOwn
import Derived.Laws.OwnMore
import Derived.IntWalk
import Derived.Lib.IndexAny
import Derived.Test.YtkjgkchdkeggoaaGreatDoorShelf
namespace Go.Proofs.YtkjgkchdkeggoaaGreatDoor
open Go.RowKit
set_option linter.unusedVariables false

theorem ret_bool {a b : Bool} (h : a = b) : Ending.returned (.bool a) = .returned (.bool b) := by rw [h]
theorem ret_int {k : IntKind} {a b : Int} (h : a = b) : Ending.returned (.int k a) = .returned (.int k b) := by rw [h]
theorem below_drewN {N : Nat} {w w1 : World} (h : Below N w w1) (n : Nat) : Below N w (w1.drewN n) := ⟨h.os, h.tape, h.output, h.size, h.block⟩

/-- A row of texts from a place on. -/
def At (w : World) (b off : Nat) (l : List ByteArray) : Prop :=
  ∀ i, (h : i < l.length) → w.cell? ⟨b, off + i, none⟩ = some (.string l[i])
theorem At.step {w w1 : World} {b off : Nat} {l : List ByteArray} (h : At w b off l) (hb : b < w.heap.size) (hw : Below w.heap.size w w1) : At w1 b off l :=
  fun i hi => (hw.cell (p := ⟨b, _, none⟩) hb).trans (h i hi)
/-- A slice of texts reads as this list. -/
def In (w : World) (p : Option Addr) (n cap : Nat) (l : List ByteArray) : Prop :=
  n = l.length ∧ (n = 0 ∨ ∃ b off, p = some ⟨b, off, none⟩ ∧ n ≤ cap ∧ b < w.heap.size ∧ At w b off l)
theorem In.step {w w1 : World} {p : Option Addr} {n cap : Nat} {l : List ByteArray} (h : In w p n cap l) (hw : Below w.heap.size w w1) : In w1 p n cap l := by
  obtain ⟨hn, h0 | ⟨b, off, hp, hc, hb, hat⟩⟩ := h
  · exact ⟨hn, .inl h0⟩
  · exact ⟨hn, .inr ⟨b, off, hp, hc, Nat.lt_of_lt_of_le hb hw.size, hat.step hb hw⟩⟩

/-- The bytes of a text. -/
def bs (s : ByteArray) : List UInt8 := s.data.toList

def lowB (c : UInt8) : Bool := decide (97 ≤ c.toNat ∧ c.toNat ≤ 122)
def capB (c : UInt8) : Bool := decide (65 ≤ c.toNat ∧ c.toNat ≤ 90)
def digB (c : UInt8) : Bool := decide (48 ≤ c.toNat ∧ c.toNat ≤ 57)
def restB (c : UInt8) : Bool := lowB c || capB c || digB c || ((c.toNat : Int) == 95) || ((c.toNat : Int) == 39)
def signL : List UInt8 := [33, 37, 38, 36, 35, 43, 45, 47, 58, 60, 61, 62, 63, 64, 92, 126, 96, 94, 124, 42]
def signB (c : UInt8) : Bool := signL.contains c

theorem low_any (c : UInt8) (w : World) : Calls Tryz.prog 136 #[.int .u8 (c.toNat : Int)] w fun e w' => e = .returned (.bool (lowB c)) ∧ w = w' := by
  have hc := c.toNat_lt
  by_cases h1 : 97 ≤ c.toNat
  · have h : Hid (lowB c = decide ((c.toNat : Int) ≤ 122)) := Lib.hid (by unfold lowB; rw [Bool.eq_iff_iff]; simp; omega)
    go_enter Tryz.func136, Tryz.ntmps136
    go_wp2
    go_ret
    exact ⟨ret_bool h.out.symm, rfl⟩
  · have h : Hid (lowB c = false) := Lib.hid (by unfold lowB; simp; omega)
    go_enter Tryz.func136, Tryz.ntmps136
    go_wp2
    go_ret
    exact ⟨ret_bool h.out.symm, rfl⟩
theorem cap_any (c : UInt8) (w : World) : Calls Tryz.prog 137 #[.int .u8 (c.toNat : Int)] w fun e w' => e = .returned (.bool (capB c)) ∧ w = w' := by
  have hc := c.toNat_lt
  by_cases h1 : 65 ≤ c.toNat
  · have h : Hid (capB c = decide ((c.toNat : Int) ≤ 90)) := Lib.hid (by unfold capB; rw [Bool.eq_iff_iff]; simp; omega)
    go_enter Tryz.func137, Tryz.ntmps137
    go_wp2
    go_ret
    exact ⟨ret_bool h.out.symm, rfl⟩
  · have h : Hid (capB c = false) := Lib.hid (by unfold capB; simp; omega)
    go_enter Tryz.func137, Tryz.ntmps137
    go_wp2
    go_ret
    exact ⟨ret_bool h.out.symm, rfl⟩
theorem dig_any (c : UInt8) (w : World) : Calls Tryz.prog 138 #[.int .u8 (c.toNat : Int)] w fun e w' => e = .returned (.bool (digB c)) ∧ w = w' := by
  have hc := c.toNat_lt
  by_cases h1 : 48 ≤ c.toNat
  · have h : Hid (digB c = decide ((c.toNat : Int) ≤ 57)) := Lib.hid (by unfold digB; rw [Bool.eq_iff_iff]; simp; omega)
    go_enter Tryz.func138, Tryz.ntmps138
    go_wp2
    go_ret
    exact ⟨ret_bool h.out.symm, rfl⟩
  · have h : Hid (digB c = false) := Lib.hid (by unfold digB; simp; omega)
    go_enter Tryz.func138, Tryz.ntmps138
    go_wp2
    go_ret
    exact ⟨ret_bool h.out.symm, rfl⟩
theorem small_any (c : UInt8) (w : World) : Calls Tryz.prog 89 #[.int .u8 (c.toNat : Int)] w fun e w' => e = .returned (.bool (lowB c)) ∧ w = w' := by
  have hc := c.toNat_lt
  by_cases h1 : 97 ≤ c.toNat
  · have h : Hid (lowB c = decide ((c.toNat : Int) ≤ 122)) := Lib.hid (by unfold lowB; rw [Bool.eq_iff_iff]; simp; omega)
    go_enter Tryz.func89, Tryz.ntmps89
    go_wp2
    go_ret
    exact ⟨ret_bool h.out.symm, rfl⟩
  · have h : Hid (lowB c = false) := Lib.hid (by unfold lowB; simp; omega)
    go_enter Tryz.func89, Tryz.ntmps89
    go_wp2
    go_ret
    exact ⟨ret_bool h.out.symm, rfl⟩
theorem great_any (c : UInt8) (w : World) : Calls Tryz.prog 90 #[.int .u8 (c.toNat : Int)] w fun e w' => e = .returned (.bool (capB c)) ∧ w = w' := by
  have hc := c.toNat_lt
  by_cases h1 : 65 ≤ c.toNat
  · have h : Hid (capB c = decide ((c.toNat : Int) ≤ 90)) := Lib.hid (by unfold capB; rw [Bool.eq_iff_iff]; simp; omega)
    go_enter Tryz.func90, Tryz.ntmps90
    go_wp2
    go_ret
    exact ⟨ret_bool h.out.symm, rfl⟩
  · have h : Hid (capB c = false) := Lib.hid (by unfold capB; simp; omega)
    go_enter Tryz.func90, Tryz.ntmps90
    go_wp2
    go_ret
    exact ⟨ret_bool h.out.symm, rfl⟩

theorem rest_any (c : UInt8) (w : World) : Calls Tryz.prog 130 #[.int .u8 (c.toNat : Int)] w fun e w' => e = .returned (.bool (restB c)) ∧ w = w' := by
  have hc := c.toNat_lt
  have H1 := fun w => low_any c w
  have H2 := fun w => cap_any c w
  have H3 := fun w => dig_any c w
  have HR : Hid (restB c = (lowB c || capB c || digB c || ((c.toNat : Int) == 95) || ((c.toNat : Int) == 39))) := Lib.hid rfl
  cases h1 : lowB c <;> cases h2 : capB c <;> cases h3 : digB c <;> simp only [h1, h2, h3] at H1 H2 H3 HR <;> clear h1 h2 h3
  all_goals
    go_enter Tryz.func130, Tryz.ntmps130
    go_wp2_with (first | (go_at_call 136; refine (H1 _).mono ?_; rintro e w1 ⟨rfl, rfl⟩) | (go_at_call 137; refine (H2 _).mono ?_; rintro e w1 ⟨rfl, rfl⟩) | (go_at_call 138; refine (H3 _).mono ?_; rintro e w1 ⟨rfl, rfl⟩))
  all_goals
    go_ret
    exact ⟨ret_bool (by rw [HR.out]; simp [*]), rfl⟩
theorem refRest_any (c : UInt8) (w : World) : Calls Tryz.prog 64 #[.int .u8 (c.toNat : Int)] w fun e w' => e = .returned (.bool (restB c)) ∧ w = w' := by
  have hc := c.toNat_lt
  have H1 := fun w => small_any c w
  have H2 := fun w => great_any c w
  have HR : Hid (restB c = (lowB c || capB c || digB c || ((c.toNat : Int) == 95) || ((c.toNat : Int) == 39))) := Lib.hid rfl
  have HD : Hid (digB c = (decide (48 ≤ (c.toNat : Int)) && decide ((c.toNat : Int) ≤ 57))) := Lib.hid (by unfold digB; rw [Bool.eq_iff_iff]; simp; omega)
  cases h1 : lowB c <;> cases h2 : capB c <;> simp only [h1, h2] at H1 H2 HR <;> clear h1 h2
  all_goals
    go_enter Tryz.func64, Tryz.ntmps64
    go_wp2_with (first | (go_at_call 89; refine (H1 _).mono ?_; rintro e w1 ⟨rfl, rfl⟩) | (go_at_call 90; refine (H2 _).mono ?_; rintro e w1 ⟨rfl, rfl⟩))
  all_goals
    go_ret
    refine ⟨ret_bool ?_, rfl⟩
    rw [HR.out, HD.out, Bool.eq_iff_iff]
    simp
    try omega
theorem sign_any (c : UInt8) (w : World) : Calls Tryz.prog 131 #[.int .u8 (c.toNat : Int)] w fun e w' => e = .returned (.bool (signB c)) ∧ w = w' := by
  have hc := c.toNat_lt
  have HS : Hid (signB c = decide (0 ≤ Lib.indexByte signL c)) := Lib.hid (Lib.contains_iff_indexByte signL c)
  have H1 : ∀ w, Calls Tryz.prog 123 #[.string ⟨#[33, 37, 38, 36, 35, 43, 45, 47, 58, 60, 61, 62, 63, 64, 92, 126, 96, 94, 124, 42]⟩, .int .u8 (c.toNat : Int)] w fun e w' => e = .returned (.int .i64 (Lib.indexByte signL c)) ∧ w' = w := fun w => by
    have h := Tryz.strings_IndexByte ⟨#[33, 37, 38, 36, 35, 43, 45, 47, 58, 60, 61, 62, 63, 64, 92, 126, 96, 94, 124, 42]⟩ (c.toNat : Int) w
    have hcc : ((c.toNat : Int)).toNat.toUInt8 = c := by simp
    rw [hcc] at h
    exact h
  generalize Lib.indexByte signL c = x at *
  go_enter Tryz.func131, Tryz.ntmps131
  go_wp2_with (go_at_call 123; refine (H1 _).mono ?_; rintro e w1 ⟨rfl, rfl⟩)
  go_ret
  exact ⟨ret_bool (by rw [HS.out]), rfl⟩
def sgnL : List UInt8 := [33, 37, 38, 36, 35, 43, 45, 47, 58, 60, 61, 62, 63, 64, 94, 124, 42, 126]
theorem signs_at (c : UInt8) (k : Nat) (h : k < 18) (he : sgnL[k]'h = c) : signB c = true := by
  subst he
  revert k
  decide
theorem u8_eq (c n : UInt8) : (c = n) = ((c.toNat : Int) = (n.toNat : Int)) := by
  rw [← UInt8.toNat_inj, eq_iff_iff]; omega
theorem signs_none (c : UInt8) (h : ∀ j, (hj : j < 18) → sgnL[j]'hj ≠ c) : signB c = (((c.toNat : Int) == 92) || ((c.toNat : Int) == 96)) := by
  have hn : ¬ c ∈ sgnL := by
    intro hm
    obtain ⟨j, hj, e⟩ := List.getElem_of_mem hm
    exact h j hj e
  rw [Bool.eq_iff_iff]
  have h2 : signB c = true ↔ c ∈ signL := by unfold signB; simp
  rw [h2]
  simp only [sgnL, List.mem_cons, List.not_mem_nil, or_false, u8_eq] at hn
  simp only [signL, List.mem_cons, List.not_mem_nil, or_false, u8_eq, Bool.or_eq_true, beq_iff_eq]
  simp at hn ⊢
  omega
set_option maxHeartbeats 400000 in
theorem signs_any (c : UInt8) (w : World) : Calls Tryz.prog 66 #[.int .u8 (c.toNat : Int)] w fun e w' => e = .returned (.bool (signB c)) ∧ w = w' := by
  have hc := c.toNat_lt
  go_enter Tryz.func66, Tryz.ntmps66
  go_wp2
  go_loop [4] (fun i => ∃ k : Nat, k ≤ 18 ∧ i = .int .i64 k ∧ Hid (∀ j, j < k → (hj : j < 18) → sgnL[j]'hj ≠ c)) (fun i => 18 - (intOf i).toNat)
  case atStart => exact ⟨0, by omega, rfl, Lib.hid (fun j h => by omega)⟩
  case round =>
    obtain ⟨k, hk, rfl, HK⟩ := hrel
    by_cases hlt : k < 18
    · by_cases he : sgnL[k]'hlt = c
      · have hx : (((({data := #[33, 37, 38, 36, 35, 43, 45, 47, 58, 60, 61, 62, 63, 64, 94, 124, 42, 126]} : ByteArray)[k]'hlt).toNat : Int) == (c.toNat : Int)) = true := by
          rw [← he]; exact beq_iff_eq.2 rfl
        have HB := Lib.hid (signs_at c k hlt he)
        clear he
        go_wp2
        go_ret
        exact ⟨ret_bool HB.out.symm, rfl⟩
      · have hx : (((({data := #[33, 37, 38, 36, 35, 43, 45, 47, 58, 60, 61, 62, 63, 64, 94, 124, 42, 126]} : ByteArray)[k]'hlt).toNat : Int) == (c.toNat : Int)) = false := by
          rw [beq_eq_false_iff_ne]; intro e; exact he (by rw [u8_eq]; exact e)
        have HE := Lib.hid he
        clear he
        go_wp2
        go_round
        case rel =>
          refine ⟨k + 1, by omega, by go_num, Lib.hid fun j hj hj2 => ?_⟩
          by_cases e : j = k
          · subst e; exact HE.out
          · exact HK.out j (by omega) hj2
        case measure => simp [intOf]; omega
    · have HB := Lib.hid (signs_none c (fun j hj => HK.out j (by omega) hj))
      go_wp2
      all_goals
        go_ret
        exact ⟨ret_bool (by simp [HB.out, *]), rfl⟩
end Go.Proofs.YtkjgkchdkeggoaaGreatDoor
