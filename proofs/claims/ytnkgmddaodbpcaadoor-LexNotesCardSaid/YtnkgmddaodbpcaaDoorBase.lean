/-
  What all walks of this seat share: bytes and their kinds, rows of texts as they lie in memory.
-/
import Derived.Test.YtnkgmddaodbpcaaDoorRows
import Derived.WalkKit
import Derived.WalkLawsBesides
import Derived.Below
import Derived.Deep.Draws
import Derived.Lib.Hide
import Derived.Handy
import Derived.RegionTactic
import Derived.ChangeAlike
import Derived.Deep.QuietTactic
import Derived.BigQuiet
import Derived.Laws.AppendOwn
import Derived.Laws.OwnMore
import Derived.IntWalk
import Derived.Lib.IndexAny
import Derived.Test.YtnkgmddaodbpcaaDoorShelf
namespace Go.Proofs.YtnkgmddaodbpcaaDoor
open Go.RowKit
set_option linter.unusedVariables false

theorem ret_bool {a b : Bool} (h : a = b) : Ending.returned (.bool a) = .returned (.bool b) := by rw [h]
theorem ret_int {k : IntKind} {a b : Int} (h : a = b) : Ending.returned (.int k a) = .returned (.int k b) := by rw [h]
theorem below_drewN {N : Nat} {w w1 : World} (h : Below N w w1) (n : Nat) : Below N w (w1.drewN n) := ⟨h.os, h.tape, h.output, h.size, h.block⟩

/-- A row of texts from a place on. -/
def At (w : World) (b off : Nat) (l : List ByteArray) : Prop :=
  ∀ i, (h : i < l.length) → w.cell? ⟨b, off + i, none⟩ = some (.string l[i])
theorem At.step {w w1 : World} {b off : Nat} {l : List ByteArray} (h : At w b off l) (hb : b < w.heap.size) (hw : Below w.heap.size w w1) : At w1 b off l :=
  fun i hi => (hw.cell (p := ⟨b, _, none⟩) hb).trans (h i hi)
/-- A slice of texts reads as this list. -/
def In (w : World) (p : Option Addr) (n cap : Nat) (l : List ByteArray) : Prop :=
  n = l.length ∧ (n = 0 ∨ ∃ b off, p = some ⟨b, off, none⟩ ∧ n ≤ cap ∧ b < w.heap.size ∧ At w b off l)
theorem In.step {w w1 : World} {p : Option Addr} {n cap : Nat} {l : List ByteArray} (h : In w p n cap l) (hw : Below w.heap.size w w1) : In w1 p n cap l := by
  obtain ⟨hn, h0 | ⟨b, off, hp, hc, hb, hat⟩⟩ := h
  · exact ⟨hn, .inl h0⟩
  · exact ⟨hn, .inr ⟨b, off, hp, hc, Nat.lt_of_lt_of_le hb hw.size, hat.step hb hw⟩⟩

/-- The bytes of a text. -/
def bs (s : ByteArray) : List UInt8 := s.data.toList

def lowB (c : UInt8) : Bool := decide (97 ≤ c.toNat ∧ c.toNat ≤ 122)
def capB (c : UInt8) : Bool := decide (65 ≤ c.toNat ∧ c.toNat ≤ 90)
def digB (c : UInt8) : Bool := decide (48 ≤ c.toNat ∧ c.toNat ≤ 57)
def restB (c : UInt8) : Bool := lowB c || capB c || digB c || ((c.toNat : Int) == 95) || ((c.toNat : Int) == 39)
def signL : List UInt8 := [33, 37, 38, 36, 35, 43, 45, 47, 58, 60, 61, 62, 63, 64, 92, 126, 96, 94, 124, 42]
def signB (c : UInt8) : Bool := signL.contains c

theorem low_any (c : UInt8) (w : World) : Calls Tryd.prog 45 #[.int .u8 (c.toNat : Int)] w fun e w' => e = .returned (.bool (lowB c)) ∧ w = w' := by
  have hc := c.toNat_lt
  by_cases h1 : 97 ≤ c.toNat
  · have h : Hid (lowB c = decide ((c.toNat : Int) ≤ 122)) := Lib.hid (by unfold lowB; rw [Bool.eq_iff_iff]; simp; omega)
    go_enter Tryd.func45, Tryd.ntmps45
    go_wp2
    go_ret
    exact ⟨ret_bool h.out.symm, rfl⟩
  · have h : Hid (lowB c = false) := Lib.hid (by unfold lowB; simp; omega)
    go_enter Tryd.func45, Tryd.ntmps45
    go_wp2
    go_ret
    exact ⟨ret_bool h.out.symm, rfl⟩
theorem cap_any (c : UInt8) (w : World) : Calls Tryd.prog 46 #[.int .u8 (c.toNat : Int)] w fun e w' => e = .returned (.bool (capB c)) ∧ w = w' := by
  have hc := c.toNat_lt
  by_cases h1 : 65 ≤ c.toNat
  · have h : Hid (capB c = decide ((c.toNat : Int) ≤ 90)) := Lib.hid (by unfold capB; rw [Bool.eq_iff_iff]; simp; omega)
    go_enter Tryd.func46, Tryd.ntmps46
    go_wp2
    go_ret
    exact ⟨ret_bool h.out.symm, rfl⟩
  · have h : Hid (capB c = false) := Lib.hid (by unfold capB; simp; omega)
    go_enter Tryd.func46, Tryd.ntmps46
    go_wp2
    go_ret
    exact ⟨ret_bool h.out.symm, rfl⟩
theorem dig_any (c : UInt8) (w : World) : Calls Tryd.prog 47 #[.int .u8 (c.toNat : Int)] w fun e w' => e = .returned (.bool (digB c)) ∧ w = w' := by
  have hc := c.toNat_lt
  by_cases h1 : 48 ≤ c.toNat
  · have h : Hid (digB c = decide ((c.toNat : Int) ≤ 57)) := Lib.hid (by unfold digB; rw [Bool.eq_iff_iff]; simp; omega)
    go_enter Tryd.func47, Tryd.ntmps47
    go_wp2
    go_ret
    exact ⟨ret_bool h.out.symm, rfl⟩
  · have h : Hid (digB c = false) := Lib.hid (by unfold digB; simp; omega)
    go_enter Tryd.func47, Tryd.ntmps47
    go_wp2
    go_ret
    exact ⟨ret_bool h.out.symm, rfl⟩
theorem rest_any (c : UInt8) (w : World) : Calls Tryd.prog 41 #[.int .u8 (c.toNat : Int)] w fun e w' => e = .returned (.bool (restB c)) ∧ w = w' := by
  have hc := c.toNat_lt
  have H1 := fun w => low_any c w
  have H2 := fun w => cap_any c w
  have H3 := fun w => dig_any c w
  have HR : Hid (restB c = (lowB c || capB c || digB c || ((c.toNat : Int) == 95) || ((c.toNat : Int) == 39))) := Lib.hid rfl
  cases h1 : lowB c <;> cases h2 : capB c <;> cases h3 : digB c <;> simp only [h1, h2, h3] at H1 H2 H3 HR <;> clear h1 h2 h3
  all_goals
    go_enter Tryd.func41, Tryd.ntmps41
    go_wp2_with (first | (go_at_call 45; refine (H1 _).mono ?_; rintro e w1 ⟨rfl, rfl⟩) | (go_at_call 46; refine (H2 _).mono ?_; rintro e w1 ⟨rfl, rfl⟩) | (go_at_call 47; refine (H3 _).mono ?_; rintro e w1 ⟨rfl, rfl⟩))
  all_goals
    go_ret
    exact ⟨ret_bool (by rw [HR.out]; simp [*]), rfl⟩
theorem sign_any (c : UInt8) (w : World) : Calls Tryd.prog 42 #[.int .u8 (c.toNat : Int)] w fun e w' => e = .returned (.bool (signB c)) ∧ w = w' := by
  have hc := c.toNat_lt
  have HS : Hid (signB c = decide (0 ≤ Lib.indexByte signL c)) := Lib.hid (Lib.contains_iff_indexByte signL c)
  have H1 : ∀ w, Calls Tryd.prog 37 #[.string ⟨#[33, 37, 38, 36, 35, 43, 45, 47, 58, 60, 61, 62, 63, 64, 92, 126, 96, 94, 124, 42]⟩, .int .u8 (c.toNat : Int)] w fun e w' => e = .returned (.int .i64 (Lib.indexByte signL c)) ∧ w' = w := fun w => by
    have h := Tryd.strings_IndexByte ⟨#[33, 37, 38, 36, 35, 43, 45, 47, 58, 60, 61, 62, 63, 64, 92, 126, 96, 94, 124, 42]⟩ (c.toNat : Int) w
    have hcc : ((c.toNat : Int)).toNat.toUInt8 = c := by simp
    rw [hcc] at h
    exact h
  generalize Lib.indexByte signL c = x at *
  go_enter Tryd.func42, Tryd.ntmps42
  go_wp2_with (go_at_call 37; refine (H1 _).mono ?_; rintro e w1 ⟨rfl, rfl⟩)
  go_ret
  exact ⟨ret_bool (by rw [HS.out]), rfl⟩
def sgnL : List UInt8 := [33, 37, 38, 36, 35, 43, 45, 47, 58, 60, 61, 62, 63, 64, 94, 124, 42, 126]
theorem signs_at (c : UInt8) (k : Nat) (h : k < 18) (he : sgnL[k]'h = c) : signB c = true := by
  subst he
  revert k
  decide
theorem u8_eq (c n : UInt8) : (c = n) = ((c.toNat : Int) = (n.toNat : Int)) := by
  rw [← UInt8.toNat_inj, eq_iff_iff]; omega
theorem signs_none (c : UInt8) (h : ∀ j, (hj : j < 18) → sgnL[j]'hj ≠ c) : signB c = (((c.toNat : Int) == 92) || ((c.toNat : Int) == 96)) := by
  have hn : ¬ c ∈ sgnL := by
    intro hm
    obtain ⟨j, hj, e⟩ := List.getElem_of_mem hm
    exact h j hj e
  rw [Bool.eq_iff_iff]
  have h2 : signB c = true ↔ c ∈ signL := by unfold signB; simp
  rw [h2]
  simp only [sgnL, List.mem_cons, List.not_mem_nil, or_false, u8_eq] at hn
  simp only [signL, List.mem_cons, List.not_mem_nil, or_false, u8_eq, Bool.or_eq_true, beq_iff_eq]
  simp at hn ⊢
  omega
end Go.Proofs.YtnkgmddaodbpcaaDoor
