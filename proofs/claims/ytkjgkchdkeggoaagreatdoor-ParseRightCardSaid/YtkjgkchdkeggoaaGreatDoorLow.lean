/-
  The reader's smallest steps: expect, pass, need.
-/
import Derived.Test.YtkjgkchdkeggoaaGreatDoorMdl
namespace Go.Proofs.YtkjgkchdkeggoaaGreatDoor
open Go.RowKit
set_option linter.unusedVariables false
set_option linter.unusedSimpArgs false

/-- What a call of the reader's ends in, told by the plain parser. -/
def Ends {α : Type} (S : Src) (d : Nat) (w : World) (o : Out α) (R : α → Value → World → Prop) (e : Ending) (w' : World) : Prop :=
  (∃ x n v, o = .ok x n ∧ e = .returned v ∧ R x v w' ∧ Rd w' S n d ∧ w.grownBy w' (some S.g)) ∨ (∃ ch, o.pan S = some ch ∧ e = .panicked ch ∧ w.grownBy w' (some S.g))
theorem grown_trans {w w1 w2 : World} {r : Option Nat} (h : w.grownBy w1 r) (k : w1.grownBy w2 r) : w.grownBy w2 r :=
  ⟨k.os.trans h.os, k.tape.trans h.tape, k.output.trans h.output, Nat.le_trans h.size k.size, fun j hj hn => (k.block j (Nat.lt_of_lt_of_le hj h.size) hn).trans (h.block j hj hn)⟩
theorem grown_same (w : World) (r : Option Nat) : w.grownBy w r := ⟨rfl, rfl, rfl, Nat.le_refl _, fun _ _ _ => rfl⟩
theorem grown_below {w w1 : World} (h : Below w.heap.size w w1) (r : Option Nat) : w.grownBy w1 r := ⟨h.os, h.tape, h.output, h.size, fun j hj _ => h.block j hj⟩
theorem grown_set {w : World} (g o : Nat) (u : Value) : w.grownBy (w.setCell ⟨g, o, none⟩ u) (some g) :=
  ⟨rfl, rfl, rfl, by simp, fun k hk hne => Below.heap_setCell _ _ _ _ (fun e => hne (by rw [e]))⟩
theorem Rd.more {w : World} {S : Src} {n d : Nat} (h : Rd w S n d) {t : List UInt8} (ht : t ≠ []) (hi : S.is n t = true) : n + 1 < S.ts.length := by
  have hl := h.here
  rcases Nat.lt_or_ge (n + 1) S.ts.length with h1 | h1
  · exact h1
  · exfalso
    have hk := (h.good.fin n hl).2 (by omega)
    have he := h.good.endt _ (List.getElem_mem hl) hk
    unfold Src.is at hi
    rw [S.tx_at hl, he] at hi
    have : (S.s.extract S.ts[n].e S.ts[n].e).data.toList = [] := by
      apply List.eq_nil_of_length_eq_zero
      have h3 : (S.s.extract S.ts[n].e S.ts[n].e).size = 0 := by simp
      rw [← h3]; rfl
    rw [this] at hi
    cases t with
    | nil => exact ht rfl
    | cons a r => simp at hi
theorem Rd.moreK {w : World} {S : Src} {n d : Nat} (h : Rd w S n d) (hk : S.kd n ≠ 0) : n + 1 < S.ts.length := by
  have hl := h.here
  rcases Nat.lt_or_ge (n + 1) S.ts.length with h1 | h1
  · exact h1
  · exact absurd ((S.kd_at hl).trans ((h.good.fin n hl).2 (by omega))) hk
theorem Rd.bump {w : World} {S : Src} {n d : Nat} (h : Rd w S n d) (hn : n + 1 < S.ts.length) : Rd (w.setCell ⟨S.g, 2, none⟩ (.int .i64 ((n : Int) + 1))) S (n + 1) d := by
  have hne : S.gw ≠ S.g := h.good.apart
  refine ⟨h.good, hn, ?_, by simpa using h.row, fun i hi => ?_, h.deep⟩
  · rw [heap_setCell_same w S.g 2 _ _ _ h.box]
    have e : ((n + 1 : Nat) : Int) = (n : Int) + 1 := by omega
    rw [e]; rfl
  · obtain ⟨t0, t1, t2⟩ := h.toks i hi
    have far : ∀ o, (w.setCell ⟨S.g, 2, none⟩ (.int .i64 ((n : Int) + 1))).cell? ⟨S.gw, o, none⟩ = w.cell? ⟨S.gw, o, none⟩ := fun o => World.cell?_of_block (Below.heap_setCell _ _ _ _ hne)
    exact ⟨(far _).trans t0, (far _).trans t1, (far _).trans t2⟩
theorem Rd.bound {w : World} {S : Src} {n d : Nat} (h : Rd w S n d) : n ≤ 1000000 := by have := h.here; have := h.good.len; omega

theorem expect_yes (S : Src) (n d : Nat) (w : World) (h : Rd w S n d) : Calls Tryz.prog 36 #[.pointer (some ⟨S.g, 0, none⟩), .bool true] w fun e w' => e = .returned (.tuple #[]) ∧ w = w' := by
  go_enter Tryz.func36, Tryz.ntmps36
  go_wp2_with fail
  go_end0
  exact ⟨rfl, rfl⟩
theorem expect_no (S : Src) (n d : Nat) (w : World) (h : Rd w S n d) : Calls Tryz.prog 36 #[.pointer (some ⟨S.g, 0, none⟩), .bool false] w fun e w' => e = .panicked [{ v := .iface 63 (.int .i64 (S.pl n)), recovered := false }] ∧ Below w.heap.size w w' := by
  have H := Lib.hid (rplace_any S n d w h)
  clear h
  go_enter Tryz.func36, Tryz.ntmps36
  go_wp2_with fail
  refine H.out.mono ?_
  rintro e w1 ⟨rfl, hb⟩
  have HB := Lib.hid hb
  clear hb
  go_wp2_with fail
  exact ⟨rfl, rfl, HB.out⟩
theorem rpass_any (S : Src) (n d : Nat) (t : ByteArray) (w : World) (h : Rd w S n d) (ht : t.data.toList ≠ []) :
    Calls Tryz.prog 46 #[.pointer (some ⟨S.g, 0, none⟩), .string t] w fun e w' => e = .returned (.bool (S.is n t.data.toList)) ∧ Rd w' S (bif S.is n t.data.toList then n + 1 else n) d ∧ w.grownBy w' (some S.g) := by
  have H := Lib.hid (rtext_any S n d n w h h.here)
  have HR := Lib.hid h
  have c2 := h.c2
  have hb := h.bound
  have e : S.is n t.data.toList = ((S.tx n).toList == t.toList) := by unfold Src.is; rw [Lib.toList_data, Lib.toList_data]
  have HM := Lib.hid (fun hi => h.more ht hi)
  cases hi : S.is n t.data.toList
  · rw [hi] at e
    have HE := e.symm
    clear h e hi HM
    generalize S.tx n = x at *
    go_enter Tryz.func46, Tryz.ntmps46
    go_wp2_with fail
    refine H.out.mono ?_
    rintro e w1 ⟨rfl, hb⟩
    have HB := Lib.hid hb
    clear hb
    go_wp2_with fail
    go_ret
    exact ⟨rfl, HR.out.step HB.out, grown_below HB.out _⟩
  · have hm := HM.out hi
    rw [hi] at e
    have HE := e.symm
    clear h e hi HM
    generalize S.tx n = x at *
    go_enter Tryz.func46, Tryz.ntmps46
    go_wp2_with fail
    refine H.out.mono ?_
    rintro e w1 ⟨rfl, hb⟩
    have HR1 := Lib.hid (HR.out.step hb)
    have d2 := HR1.out.c2
    have f2 := HR1.out.free 2
    have HB := Lib.hid hb
    clear hb
    go_wp2_with fail
    go_ret
    exact ⟨rfl, HR1.out.bump hm, grown_trans (grown_below HB.out _) (grown_set _ _ _)⟩
end Go.Proofs.YtkjgkchdkeggoaaGreatDoor
