/-
  pass, for any machine.
-/
import Derived.Test.YtkjgkchdkeggoaaGreatDoorKind
import Derived.ScopeJumps
import Derived.WalkMore
namespace Go.Proofs.YtkjgkchdkeggoaaGreatDoor
open Go.RowKit
set_option linter.unusedVariables false

/-- How many bytes a machine passes over. -/
def passN {σ : Type} (f : σ → UInt8 → σ × Bool) : σ → List UInt8 → Nat
  | _, [] => 0
  | s, c :: r => bif (f s c).2 then passN f (f s c).1 r + 1 else 0
theorem passN_le {σ : Type} (f : σ → UInt8 → σ × Bool) (s : σ) (l : List UInt8) : passN f s l ≤ l.length := by
  induction l generalizing s with
  | nil => simp [passN]
  | cons c r ih => simp only [passN, List.length_cons]; have := ih (f s c).1; cases (f s c).2 <;> simp <;> omega
theorem drop_at (s : ByteArray) (k : Nat) (h : k < s.size) : s.data.toList.drop k = s[k] :: s.data.toList.drop (k + 1) := by
  rw [← data_at s k h, List.getElem_cons_drop]
theorem passN_at {σ : Type} (f : σ → UInt8 → σ × Bool) (q : σ) (s : ByteArray) (k : Nat) (h : k < s.size) : passN f q (s.data.toList.drop k) = bif (f q s[k]).2 then passN f (f q s[k]).1 (s.data.toList.drop (k + 1)) + 1 else 0 := by
  rw [drop_at s k h]; rfl
theorem passN_end {σ : Type} (f : σ → UInt8 → σ × Bool) (q : σ) (s : ByteArray) (k : Nat) (h : s.size ≤ k) : passN f q (s.data.toList.drop k) = 0 := by
  rw [List.drop_eq_nil_of_le (by rw [data_len]; exact h)]; rfl

theorem Exit.jump_mono {l : Nat} {J J' : Act → World → Prop} {Q : Exit → Act → World → Prop} (h : ∀ a w, J a w → J' a w) : ∀ e a w, Exit.jump l J Q e a w → Exit.jump l J' Q e a w := by
  intro e a w he
  cases e <;> first | exact he | exact ⟨he.1, h _ _ he.2⟩
theorem wp_scope_label {P : Program} {a : Act} {w : World} {Q : Exit → Act → World → Prop} {rest : Code} (l : Nat) (J : Act → World → Prop) (μ : Act → World → Nat)
    (h0 : J a w) (pass : ∀ a w, J a w → rest.wp P (Exit.jump l (fun a' w' => J a' w' ∧ μ a' w' < μ a w) Q) a w) : (Code.scope ((Code.label l).seq rest)).wp P Q a w := by
  have hs : ∀ a w, J a w → (Code.skip.seq rest).wp P (Exit.jump l (fun a' w' => J a' w' ∧ μ a' w' < μ a w) Q) a w := fun a w h => wp_seq (wp_skip (pass a w h))
  refine wp_scope_jumps l J μ (by simp [findLabel]) ?_ hs
  exact wp_seq (wp_label (wp_mono (pass a w h0) (Exit.jump_mono fun _ _ h => h.1)))

set_option maxHeartbeats 1000000 in
theorem pass_any {σ : Type} (f : σ → UInt8 → σ × Bool) (J : Nat → σ → World → Prop) (n : Nat) (cap : Array Value)
    (hcf : ∀ args w, Sem.run Tryz.prog (callFunc n args) w = .ok (.enter n args) w) (s : ByteArray) (hs : s.size ≤ 1000000)
    (H : ∀ k q c w, k < s.size → J k q w → Calls Tryz.prog n (#[.int .u8 (c.toNat : Int)] ++ cap) w fun e w' => e = .returned (.bool (f q c).2) ∧ J (k + 1) (f q c).1 w')
    (at0 : Nat) (ha : at0 ≤ s.size) (q0 : σ) (w : World) (h0 : J at0 q0 w) :
    Calls Tryz.prog 101 #[.string s, .int .i64 at0, .func (.func n) #[] cap] w fun e w' => e = .returned (.int .i64 ((at0 + passN f q0 (s.data.toList.drop at0) : Nat))) ∧ ∃ k q, J k q w' := by
  have HH := Lib.hid H
  clear H
  go_enter Tryz.func101, Tryz.ntmps101
  go_wp2
  refine wp_scope_label 0 (fun a' w' => ∃ (k : Nat) (q : σ) (u7 u8 u9 u10 u11 u12 u13 u14 u15 u16 u17 u18 u19 u20 : Value), k ≤ s.size ∧ Hid (at0 + passN f q0 (s.data.toList.drop at0) = k + passN f q (s.data.toList.drop k)) ∧ Hid (J k q w') ∧ a' = { tmps := #[.string s, .int .i64 k, .func (.func n) #[] cap, undef, undef, undef, .int .i64 0, u7, u8, u9, u10, u11, u12, u13, u14, u15, u16, u17, u18, u19, u20], defers := [] }) (fun a' _ => s.size - (intOf (a'.tmps.getD 1 undef)).toNat) ⟨at0, q0, undef, undef, undef, undef, undef, undef, undef, undef, undef, undef, undef, undef, undef, undef, ha, Lib.hid rfl, Lib.hid h0, rfl⟩ ?_
  rintro a' w' ⟨k, q, u7, u8, u9, u10, u11, u12, u13, u14, u15, u16, u17, u18, u19, u20, hk, HP, HJ, rfl⟩
  by_cases hlt : k < s.size
  · have HX := HH.out k q s[k] w' hlt HJ.out
    have hA := passN_at f q s k hlt
    cases hb : (f q s[k]).2
    · rw [hb, cond_false] at hA
      rw [hb] at HX
      have HE : Hid (at0 + passN f q0 (s.data.toList.drop at0) = k) := Lib.hid (by rw [HP.out, hA]; rfl)
      clear hA hb
      go_wp2_with fail
      refine HX.mono ?_
      rintro e w1 ⟨rfl, h1⟩
      have H1 := Lib.hid h1
      clear h1
      go_wp2
      simp only [Exit.jump]
      go_ret
      exact ⟨ret_int (by rw [HE.out]), _, _, H1.out⟩
    · rw [hb, cond_true] at hA
      rw [hb] at HX
      have HE : Hid (at0 + passN f q0 (s.data.toList.drop at0) = k + 1 + passN f (f q s[k]).1 (s.data.toList.drop (k + 1))) := Lib.hid (by rw [HP.out, hA]; omega)
      clear hA hb
      go_wp2_with fail
      refine HX.mono ?_
      rintro e w1 ⟨rfl, h1⟩
      have H1 := Lib.hid h1
      clear h1
      go_wp2
      go_step3
      refine ⟨rfl, ⟨k + 1, _, _, _, _, _, _, _, _, _, _, _, _, _, _, _, hlt, HE, H1, by go_num⟩, ?_⟩
      simp [intOf]; omega
  · have HE : Hid (at0 + passN f q0 (s.data.toList.drop at0) = k) := Lib.hid (by rw [HP.out, passN_end f q s k (by omega)]; rfl)
    go_wp2
    simp only [Exit.jump]
    go_ret
    exact ⟨ret_int (by rw [HE.out]), _, _, HJ.out⟩
end Go.Proofs.YtkjgkchdkeggoaaGreatDoor
