/-
  Keys that are a space and a name; keys that are two environments.
-/
import Derived.Test.YtpgmlagkpigdjaaMp
import Derived.DeepKeys4
namespace Go.Proofs.Ytpgmlagkpigdjaa
open Go.RowKit
set_option maxRecDepth 20000
set_option linter.unusedVariables false
set_option linter.unusedSimpArgs false

theorem held31 : Try.prog.stoodInHeld 31 = false := by kernel_rfl
theorem part3_0 (a b : Value) (w : World) : (part 3 #[a, b] 0).run Try.prog w = .ok a w := by
  simp [part, Try.isAgg3, Result.andThen]
theorem part9_1 (a b : Value) (w : World) : (part 9 #[a, b] 1).run Try.prog w = .ok b w := by
  simp [part, Try.isAgg9, Result.andThen]
theorem eqI (s t : Int) (w : World) : (Op.equalIn 9999 3 (.int .i64 s) (.int .i64 t)).run Try.prog w = .ok (decide (s = t)) w := by
  rw [show (9999 : Nat) = 9998 + 1 from rfl]
  unfold Op.equalIn
  by_cases h : s = t <;> simp [run_underlying Try.underlying3, Result.andThen, h]
theorem eqS (s t : ByteArray) (w : World) : (Op.equalIn 9999 9 (.string s) (.string t)).run Try.prog w = .ok (decide (s = t)) w := by
  rw [show (9999 : Nat) = 9998 + 1 from rfl]
  unfold Op.equalIn
  simp [run_underlying Try.underlying9, Result.andThen]
  by_cases h : s = t
  · subst h; simp [MapKept.bytes_beq]
  · simp only [h, decide_false]
    cases hb : (s == t) with
    | false => rfl
    | true => exact absurd ((MapKept.bytes_beq s t).1 hb) h
set_option maxHeartbeats 1000000 in
theorem key31_eq (a b : Ky) (w : World) : (Op.equal 31 (keyV a) (keyV b)).run Try.prog w = .ok (decide (a = b)) w := by
  obtain ⟨s, n⟩ := a
  obtain ⟨t, m⟩ := b
  unfold Op.equal Op.maxDepth keyV
  rw [show (10000 : Nat) = 9999 + 1 from rfl]
  unfold Op.equalIn
  simp [run_underlying Try.underlying31, held31, Result.andThen, part3_0, part9_1, eqI, eqS]
  by_cases h : s = t <;> by_cases h2 : n = m <;> simp [h, h2, Result.andThen, part9_1, eqS]
theorem check3 (e : Bool) (s : Int) (w : World) : (Instr.checkKey e 9999 3 (.int .i64 s)).run Try.prog w = .ok () w := by
  rw [show (9999 : Nat) = 9998 + 1 from rfl]
  unfold Instr.checkKey
  simp [run_underlying Try.underlying3, Result.andThen]
theorem check9 (e : Bool) (s : ByteArray) (w : World) : (Instr.checkKey e 9999 9 (.string s)).run Try.prog w = .ok () w := by
  rw [show (9999 : Nat) = 9998 + 1 from rfl]
  unfold Instr.checkKey
  simp [run_underlying Try.underlying9, Result.andThen]
theorem key31_check (e : Bool) (a : Ky) (w : World) : (Instr.checkKey e 10000 31 (keyV a)).run Try.prog w = .ok () w := by
  obtain ⟨s, n⟩ := a
  rw [show (10000 : Nat) = 9999 + 1 from rfl]
  unfold Instr.checkKey keyV
  simp [run_underlying Try.underlying31, Result.andThen, part3_0, part9_1, check3, check9]
theorem key31_ok : KeyOK 31 keyV (fun _ _ => True) where
  check := key31_check
  eq := fun a b w _ _ => key31_eq a b w
  now := ⟨_, Try.underlying31, fun a b => by unfold keyV; cases b <;> rfl⟩
  bits := fun a => by
    rw [show (10000 : Nat) = 9999 + 1 from rfl]
    simp [keyV, Instr.sameBits, MapKept.bytes_beq]
  inj := fun a b h => by
    obtain ⟨s, n⟩ := a; obtain ⟨t, m⟩ := b
    simp [keyV] at h
    simp [h]

/-- A pointer to a block, or none. -/
def ptrB (p : Option Nat) : Value := .pointer (p.bind at0)
/-- A pair of environments. -/
def pairV (x : Option Nat × Option Nat) : Value := .agg #[ptrB x.1, ptrB x.2]
def GoodB (w : World) (p : Option Nat) : Prop := ∀ g, p = some g → ∃ cs, w.heap[g]? = some (.cells cs 57 (0, 0))
theorem eqP (p q : Option Nat) (w : World) (hp : GoodB w p) (hq : GoodB w q) : (Op.equalIn 9999 25 (ptrB p) (ptrB q)).run Try.prog w = .ok (decide (p = q)) w := by
  rw [show (9999 : Nat) = 9998 + 1 from rfl]
  cases p with
  | none =>
    unfold Op.equalIn
    cases q <;> simp [ptrB, at0, run_underlying Try.underlying25, Result.andThen]
  | some a =>
    cases q with
    | none =>
      unfold Op.equalIn
      simp [ptrB, at0, run_underlying Try.underlying25, Result.andThen]
    | some b =>
      obtain ⟨ca, ha⟩ := hp a rfl
      obtain ⟨cb, hb⟩ := hq b rfl
      obtain ⟨j, hj, hjz⟩ := info57
      have := equalIn_ptr 9998 w a b ca cb 57 57 Try.underlying25 hj hjz ha hb
      simpa [ptrB] using this
theorem held71 : Try.prog.stoodInHeld 71 = false := by kernel_rfl
theorem part25_0 (a b : Value) (w : World) : (part 25 #[a, b] 0).run Try.prog w = .ok a w := by
  simp [part, Try.isAgg25, Result.andThen]
theorem part25_1 (a b : Value) (w : World) : (part 25 #[a, b] 1).run Try.prog w = .ok b w := by
  simp [part, Try.isAgg25, Result.andThen]
theorem check25 (e : Bool) (p : Option Nat) (w : World) : (Instr.checkKey e 9999 25 (ptrB p)).run Try.prog w = .ok () w := by
  rw [show (9999 : Nat) = 9998 + 1 from rfl]
  unfold Instr.checkKey
  simp [run_underlying Try.underlying25, Result.andThen]
theorem key71_ok : KeyOK 71 pairV (fun w x => GoodB w x.1 ∧ GoodB w x.2) where
  check := fun e a w => by
    obtain ⟨s, n⟩ := a
    rw [show (10000 : Nat) = 9999 + 1 from rfl]
    unfold Instr.checkKey pairV
    simp [run_underlying Try.underlying71, Result.andThen, part25_0, part25_1, check25]
  eq := fun a b w ha hb => by
    obtain ⟨s, n⟩ := a
    obtain ⟨t, m⟩ := b
    unfold Op.equal Op.maxDepth pairV
    rw [show (10000 : Nat) = 9999 + 1 from rfl]
    unfold Op.equalIn
    simp [run_underlying Try.underlying71, held71, Result.andThen, part25_0, part25_1, eqP s t w ha.1 hb.1, eqP n m w ha.2 hb.2]
    have e2 := eqP n m w ha.2 hb.2
    by_cases h : s = t <;> by_cases h2 : n = m <;> simp [h, h2, Result.andThen, part25_1] <;> (try (rw [h2] at e2)) <;> simp [e2, h2]
  now := ⟨_, Try.underlying71, fun a b => by unfold pairV; cases b <;> rfl⟩
  bits := fun a => by
    obtain ⟨s, n⟩ := a
    rw [show (10000 : Nat) = 9999 + 1 from rfl]
    simp [pairV, ptrB, Instr.sameBits]
  inj := fun a b h => by
    obtain ⟨s, n⟩ := a; obtain ⟨t, m⟩ := b
    simp only [pairV, ptrB, Value.agg.injEq, Array.mk.injEq, List.cons.injEq, Value.pointer.injEq, and_true] at h
    have key : ∀ p q : Option Nat, p.bind at0 = q.bind at0 → p = q := fun p q h => by
      cases p <;> cases q <;> simp [at0] at h <;> simp [h]
    simp [key _ _ h.1, key _ _ h.2]
end Go.Proofs.Ytpgmlagkpigdjaa
