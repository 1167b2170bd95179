/-
  All bindings of an environment, and Since.
-/
import Derived.Test.YtpgmlagkpigdjaaBeh
namespace Go.Proofs.Ytpgmlagkpigdjaa
open Go.RowKit
set_option maxRecDepth 20000
set_option linter.unusedVariables false
set_option linter.unusedSimpArgs false

/-- What a call that makes a row of bindings leaves. -/
def RowPost (w : World) (l : List Bi) (e : Ending) (w' : World) : Prop := ∃ v, e = .returned v ∧ OwnB w' w.heap.size v l ∧ Below w.heap.size w w'
theorem all_any (w : World) (p : Option Addr) (l : List Bd) (h : EnvAt w p l) (hn : l.length ≤ 900000) : Calls Try.prog 32 #[.pointer p] w (RowPost w ((l.map (·.bi)).reverse)) := by
  have HB := Lib.hid (behind39 w p l l.length h (Nat.le_refl _) hn (fun i b hi hb W hW => by
    have hil : i < l.length := (List.getElem?_eq_some_iff.1 hb).1
    rw [show decide (i = l.length) = false by simp; omega]
    exact never39 _ W))
  rw [List.take_length] at HB
  clear h hn
  go_enter Try.func32, Try.ntmps32
  go_wp2_with (go_at_call 28; refine HB.out.mono ?_; rintro e w2 ⟨v, rfl, ho2, hb2⟩; have HO2 := Lib.hid ho2; have HB2 := Lib.hid hb2; clear ho2 hb2)
  go_ret
  exact ⟨_, rfl, HO2.out, HB2.out⟩

def tb : List Bd → Option Nat
  | [] => none
  | b :: _ => some b.lk
theorem top_tb (l : List Bd) : top l = (tb l).bind at0 := by cases l <;> rfl
set_option maxHeartbeats 4000000 in
theorem since_any (w : World) (p pb : Option Addr) (l lb : List Bd) (m : Nat) (h : EnvAt w p l) (hb : EnvAt w pb lb) (hn : l.length ≤ 900000) (hm : m ≤ l.length) (hs : ∀ i b, i ≤ m → l[i]? = some b → decide (i = m) = decide (some b.lk = tb lb)) :
    Calls Try.prog 14 #[.pointer p, .pointer pb] w (AndPost w [] (((l.take m).map (·.bi)).reverse)) := by
  have HY := Lib.hid (youngest_any w pb lb hb)
  obtain ⟨T, hT⟩ : ∃ T, T = top lb := ⟨_, rfl⟩
  rw [← hT] at HY
  have HB : Hid (∀ W, W = w.alloc (.cells #[.pointer T] 54) → Calls Try.prog 28 #[.pointer p, .func (.func 29) #[] #[.pointer (some ⟨w.heap.size, 0, none⟩)]] W fun e w' => ∃ v, e = .returned v ∧ OwnB w' w.heap.size v (((l.take m).map (·.bi)).reverse) ∧ Below w.heap.size w w') := Lib.hid fun W hW => by
    have hBW : Below w.heap.size w W := by rw [hW]; exact (Below.refl _ _).alloc (Nat.le_refl _) _
    have hkb : W.heap[w.heap.size]? = some (.cells #[.pointer T] 54 (0, 0)) := by rw [hW]; exact heap_new _ _
    refine (behind29 W p l m w.heap.size (h.step hBW) hm hn (fun i b hi hib W2 hW2 => ?_)).mono ?_
    · rw [hs i b hi hib]
      obtain ⟨q, hq⟩ := (Lk.step (hBW.trans (hW2.mono hBW.size)) h.lk).mem b (List.mem_of_getElem? hib)
      refine since29 b.lk (tb lb) w.heap.size W2 ?_ ⟨_, _, hq⟩ (fun x hx => ?_)
      · rw [← top_tb, ← hT]; exact (cellH (heap_step hkb hW2) 0).trans rfl
      · cases lb with
        | nil => cases hx
        | cons y r =>
          simp only [tb, Option.some.injEq] at hx
          obtain ⟨q2, hq2⟩ := (Lk.step (hBW.trans (hW2.mono hBW.size)) hb.lk).mem y (by simp)
          rw [← hx]; exact ⟨_, _, hq2⟩
    · rintro e w' ⟨v, h1, h2, h3⟩
      exact ⟨v, h1, h2.base hBW.size, hBW.trans (h3.mono hBW.size)⟩
  have HA : Hid (∀ W v, OwnB W w.heap.size v (((l.take m).map (·.bi)).reverse) → Below w.heap.size w W → Calls Try.prog 21 #[.pointer none, v] W (AndPost w [] (((l.take m).map (·.bi)).reverse))) := Lib.hid fun W v hv hW => by
    obtain ⟨q, n, c, rfl, hbs⟩ := hv.bs
    have hbn : n = (((l.take m).map (·.bi)).reverse).length := hbs.1
    refine (and_any W none [] q n c _ (EnvAt.nil W) hbs (by rw [hbn]; simp; omega)).mono ?_
    rintro e w' ⟨p', new, h1, h2, h3, h4, h5⟩
    exact ⟨p', new, h1, h2, h3, fun b hb => Nat.le_trans hW.size (h4 b hb), hW.trans (h5.mono hW.size)⟩
  clear h hb hs hm hn hT
  generalize ((l.take m).map (·.bi)).reverse = L at *
  go_enter Try.func14, Try.ntmps14
  go_wp2_with (first
    | (go_at_call 27; refine HY.out.mono ?_; rintro e wp ⟨rfl, rfl⟩)
    | (go_at_call 28; refine (HB.out _ rfl).mono ?_; rintro e w2 ⟨v, rfl, ho2, hb2⟩; have HC := Lib.hid (HA.out _ _ ho2 hb2); clear ho2 hb2)
    | (go_at_call 21; refine HC.out.mono ?_; rintro e w3 ⟨p', new, rfl, h2, h3, h4, h5⟩; have HP : Hid (AndPost w [] L (.returned (.pointer p')) w3) := Lib.hid ⟨p', new, rfl, h2, h3, h4, h5⟩; clear h2 h3 h4 h5))
  go_ret
  exact HP.out
end Go.Proofs.Ytpgmlagkpigdjaa
