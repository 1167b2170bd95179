/-
  Scan, Words, part, Bad, First.
-/
import Derived.Test.YtkjgkchdkeggoaaGreatDoorThose
namespace Go.Proofs.YtkjgkchdkeggoaaGreatDoor
open Go.RowKit
set_option maxRecDepth 20000
set_option linter.unusedVariables false
set_option linter.unusedSimpArgs false

theorem plainN_pos (p : List UInt8) : plainN p ≠ 0 := by
  unfold plainN
  cases p with
  | nil => decide
  | cons c r =>
    simp only
    cases digB c
    · cases h : (kindN (bsOf (c :: r)) == 0)
      · simpa using h
      · simp
    · cases passN (pureF digB) () (c :: r) == (c :: r).length <;> simp
theorem tokN_kind (l : List UInt8) (h : l ≠ []) : (tokN l).1 ≠ 0 := by
  cases l with
  | nil => exact absurd rfl h
  | cons c r =>
    unfold tokN
    simp only
    cases blankB c
    · cases eqB c 34
      · cases (eqB c 40 && headB r 42)
        · cases restB c
          · cases signB c
            · simp only [cond_false]; exact plainN_pos _
            · simp only [cond_false, cond_true]; exact plainN_pos _
          · simp only [cond_false, cond_true]; exact plainN_pos _
        · unfold noteN; simp only; cases (passN nF (0, 0) (c :: r) == (c :: r).length) <;> simp
      · unfold quoteN; simp only; cases headB (r.drop (passN qF false r)) 34 <;> simp
    · simp
theorem uptoN_scanF (go : Tok → Bool) (n a : Nat) (l : List UInt8) (z : Tok) (hz : z.k = 0) (hg : ∀ t, go t = true) : uptoN go (scanF n a l ++ [z]) = scanF n a l ++ [z] := by
  induction n generalizing a l with
  | zero => simp [scanF, uptoN, hz]
  | succ n ih =>
    cases l with
    | nil => simp [scanF, uptoN, hz]
    | cons c r =>
      have hk := tokN_kind (c :: r) (by simp)
      simp only [scanF, List.isEmpty_cons, cond_false, List.cons_append, uptoN, hg, Bool.true_and]
      rw [ih]
      have : (!((tokN (c :: r)).1 == 0)) = true := by simpa using hk
      rw [this]
      rfl
/-- All tokens of a text. -/
def scanT (s : ByteArray) : List Tok := restT s 0
theorem upto_scan (s : ByteArray) : uptoN (fun _ => true) (restT s 0) = scanT s := uptoN_scanF _ _ _ _ _ rfl (fun _ => rfl)
theorem pick_all (l : List Tok) : pickT (fun _ => true) l = l := by
  induction l with
  | nil => rfl
  | cons x r ih => simp [pickT, ih]
theorem cf17 (args : Array Value) (w : World) : Sem.run Tryz.prog (callFunc 54 args) w = .ok (.enter 54 args) w := cf_enter Tryz.func54 (by kernel_rfl) (by kernel_rfl) args w
theorem cf19 (args : Array Value) (w : World) : Sem.run Tryz.prog (callFunc 57 args) w = .ok (.enter 57 args) w := cf_enter Tryz.func57 (by kernel_rfl) (by kernel_rfl) args w
/-- Neither a blank nor a note. -/
def saysB (k : Int) : Bool := !(k == 1) && !(k == 2)
theorem w1_any (k : Int) (w : World) : Calls Tryz.prog 57 #[.int .i64 k] w fun e w' => e = .returned (.bool (saysB k)) ∧ w = w' := by
  by_cases h1 : k = 1
  · subst h1
    go_enter Tryz.func57, Tryz.ntmps57
    go_wp2
    go_ret
    exact ⟨rfl, rfl⟩
  · have HB : Hid (saysB k = (k != 2)) := Lib.hid (by unfold saysB; simp [h1, bne])
    have h1' : (k != 1) = true := by simp [h1]
    go_enter Tryz.func57, Tryz.ntmps57
    go_wp2
    go_ret
    exact ⟨ret_bool HB.out.symm, rfl⟩
/-- The tokens of a text that say something. -/
def wordsT (s : ByteArray) : List Tok := pickT saysB (scanT s)
theorem words_any (s : ByteArray) (hs : s.size ≤ 1000000) (w : World) (hk : Kw w) :
    Calls Tryz.prog 35 #[.string s] w fun e w' => ∃ v, e = .returned v ∧ ToksAt w' v (wordsT s) ∧ Below w.heap.size w w' := by
  have H := those_any 57 saysB cf19 w1_any s hs w hk
  rw [upto_scan] at H
  have e : wordsT s = pickT saysB (scanT s) := rfl
  rw [← e] at H
  clear hk e
  go_enter Tryz.func35, Tryz.ntmps35
  go_wp2_with fail
  refine H.mono ?_
  rintro e w1 ⟨v, rfl, h1, h2⟩
  have H1 := Lib.hid h1
  have H2 := Lib.hid h2
  clear h1 h2
  go_wp2_with fail
  go_returns
  exact ⟨v, rfl, H1.out, H2.out⟩
end Go.Proofs.YtkjgkchdkeggoaaGreatDoor
