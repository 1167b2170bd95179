/-
  The walk of PackLists.
-/
import Derived.Test.YtlfnefgcndhomaaInts
import Derived.Test.YtlfnefgcndhomaaBytes
import Derived.Test.YtlfnefgcndhomaaAlive
namespace Go.Proofs.Ytlfnefgcndhomaa
open Go.RowKit
set_option linter.unusedVariables false

theorem packLists_long (p : Option Addr) (n c : Nat) (w : World) (hn : n ≤ 9223372036854775807) (h : 500 < n) :
    Calls Try.prog 6 #[.slice p n c] w fun e w' => e = .returned (.bool true) ∧ Below w.heap.size w w' := by
  go_enter Try.func6, Try.ntmps6
  go_wp2_with (go_at_call 12; refine (alive_any _).mono ?_; rintro e w1 ⟨rfl, hb⟩)
  go_ret
  exact ⟨rfl, hb⟩

theorem packLists_short (p : Option Addr) (n c : Nat) (b : List UInt8) (w : World) (h : In mkB w p n c b) (hn : n ≤ 500) :
    Calls Try.prog 6 #[.slice p n c] w fun e w' => e = .returned (.bool true) ∧ Below w.heap.size w w' := by
  have HIN := Lib.hid h
  have HBN := Lib.hid h.1
  have HP := intsP_any p n c b w h (by omega)
  clear h
  go_enter Try.func6, Try.ntmps6
  go_wp2_with fail
  refine HP.mono ?_
  rintro e w1 ⟨hb1, ⟨hno, rfl⟩ | ⟨l, v1, hl, rfl, hown⟩⟩
  · clear hno
    have hz1 := hb1.size
    go_wp2_with (first | (go_at_call 11; refine (no_any _ _).mono ?_; rintro e w9 ⟨rfl, rfl⟩) | (go_at_call 12; refine (alive_any _).mono ?_; rintro e w9 ⟨rfl, hb9⟩))
    go_ret
    exact ⟨rfl, hb1.trans (hb9.mono (by omega))⟩
  · obtain ⟨h1, h2, h3⟩ := intsOf_some hl
    have hln : l.length ≤ 500 := by rw [← HBN.out] at h3; omega
    obtain ⟨p1, c1, rfl, hin1⟩ := in_of_row hown rfl
    have HIN1 := Lib.hid hin1
    have H1 := Lib.hid h1
    have H2 := Lib.hid h2
    have hz1 := hb1.size
    have HIN2 := Lib.hid (HIN.out.step hb1)
    clear hl hown hin1 h1 h2 h3
    go_wp2_with (first | (go_at_call 11; refine (no_any _ _).mono ?_; rintro e w9 ⟨rfl, rfl⟩))
    refine (bytes_any p1 l.length c1 l w1 HIN1.out (by omega) H2.out).mono ?_
    rintro e w2 ⟨v2, rfl, hown2, hb2⟩
    have hz2 := hb2.size
    rw [H1.out] at hown2
    obtain ⟨p2, c2, rfl, hin2⟩ := in_of_row hown2 rfl
    have HIN3 := Lib.hid hin2
    have HIN4 := Lib.hid (HIN2.out.step hb2)
    clear hown2 hin2
    go_wp2_with fail
    refine (equal_any _ _ _ _ _ _ _ _ w2 HIN3.out HIN4.out).mono ?_
    rintro e w3 ⟨rfl, rfl⟩
    rw [decide_eq_true rfl]
    go_wp2_with (go_at_call 12; refine (alive_any _).mono ?_; rintro e w9 ⟨rfl, hb9⟩)
    go_ret
    exact ⟨rfl, (hb1.trans (hb2.mono hz1)).trans (hb9.mono (by omega))⟩

theorem packLists_walk (p : Option Addr) (n c : Nat) (b : List UInt8) (w : World) (hn : n ≤ 9223372036854775807) (h : In mkB w p n c b) :
    Calls Try.prog 6 #[.slice p n c] w fun e w' => e = .returned (.bool true) ∧ Below w.heap.size w w' := by
  by_cases h1 : 500 < n
  · exact packLists_long p n c w hn h1
  · exact packLists_short p n c b w h (by omega)
end Go.Proofs.Ytlfnefgcndhomaa
