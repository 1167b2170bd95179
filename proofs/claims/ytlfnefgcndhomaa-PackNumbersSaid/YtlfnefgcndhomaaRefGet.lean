/-
  The document's Get.
-/
import Derived.Test.YtlfnefgcndhomaaGet
import Derived.Test.YtlfnefgcndhomaaPut
import Derived.Test.YtlfnefgcndhomaaAlive
import Derived.Deep.RegionWith
namespace Go.Proofs.Ytlfnefgcndhomaa
open Go.RowKit
set_option linter.unusedVariables false

/-- Sevens of bits, the lowest first, in 64 bits. -/
def valW : List UInt8 → Nat
  | [] => 0
  | c :: r => (c.toNat % 128 + 128 * valW r) % 18446744073709551616
theorem valW_lt : ∀ l, valW l < 18446744073709551616
  | [] => by simp [valW]
  | c :: r => Nat.mod_lt _ (by omega)
theorem valW_uv : ∀ (f y : Nat), y < f → y < 18446744073709551616 → valW (Lib.uvarint y) = y
  | 0, y, h, _ => absurd h (by omega)
  | f + 1, y, h, hy => by
    by_cases hs : y < 128
    · rw [Lib.uvarint_small hs]
      simp only [valW, u8_of y (by omega)]; omega
    · rw [Lib.uvarint_big (by omega)]
      simp only [valW, u8_of (y % 128 + 128) (by omega), valW_uv f (y / 128) (by omega) (by omega)]
      omega
theorem valW_drop (l : List UInt8) (j : Nat) (h : j < l.length) : valW (l.drop j) = (l[j].toNat % 128 + 128 * valW (l.drop (j + 1))) % 18446744073709551616 := by
  rw [List.drop_eq_getElem_cons h]; rfl

theorem refGet_eq {l : List UInt8} {k acc : Nat} (h : Getting l k acc) (hk : k < l.length) (h9 : k < 10) (hc : ¬ 128 ≤ l[k].toNat) :
    (Lib.uvarint (valW (l.take (k + 1))) = l.take (k + 1) → dec 0 l = some (valW (l.take (k + 1)), k + 1)) ∧ (Lib.uvarint (valW (l.take (k + 1))) ≠ l.take (k + 1) → dec 0 l = none) := by
  refine ⟨fun e => ?_, fun e => ?_⟩
  · have := dec_put (valW (l.take (k + 1))) (l.drop (k + 1)) (valW_lt _)
    rw [e, List.take_append_drop] at this
    rw [this, List.length_take]
    congr 2
    omega
  · cases hl : lastB l[k] k with
    | false => exact h.no hk h9 hc hl
    | true =>
      have hd := h.yes hk h9 hc hl
      have h2 := dec_some l 0 _ _ hd
      have h3 := h2.2.2.2.2.2
      have h4 := h2.2.2.2.1
      rw [h3, valW_uv _ _ (Nat.lt_succ_self _) (by omega)] at e
      exact absurd rfl e

theorem below_undrew {N : Nat} {w w1 : World} (h : Below N w.drew w1) : Below N w w1 := ⟨h.os, h.tape, h.output, h.size, h.block⟩

theorem refGet_nothing (p : Option Addr) (c : Nat) (w : World) :
    Calls Try.prog 18 #[.slice p 0 c] w fun e w' => e = .returned (.tuple #[.int .u64 (getV [] : Nat), .int .i64 (getK [] : Nat), .int .i64 (getE [])]) ∧ Below w.heap.size w w' := by
  have H := Lib.hid get_nil
  go_enter Try.func18, Try.ntmps18
  go_wp2
  go_ret3
  exact ⟨ret_get (by rw [H.out.1]; rfl) (by rw [H.out.2.1]; rfl) H.out.2.2, Below.refl _ _⟩

set_option maxRecDepth 10000 in
set_option maxHeartbeats 2000000 in
theorem refGet_some (l : List UInt8) (b off c n : Nat) (w : World) (hat : At mkB w b off l) (hb : b < w.heap.size) (hc : n ≤ c) (hn : l.length = n) (h0 : 0 < n) (hlim : n ≤ 1000) :
    Calls Try.prog 18 #[.slice (some ⟨b, off, none⟩) n c] w fun e w' => e = .returned (.tuple #[.int .u64 (getV l : Nat), .int .i64 (getK l : Nat), .int .i64 (getE l)]) ∧ Below w.heap.size w w' := by
  have H := Lib.hid hat
  have HN := Lib.hid hn
  have HNE : Hid (l ≠ []) := Lib.hid (by intro e; subst e; simp at hn; omega)
  have hz : ((n : Int) == 0) = false := by rw [beq_eq_false_iff_ne]; omega
  clear hat hn
  go_enter Try.func18, Try.ntmps18
  go_wp2
  go_loop [5] (fun i => ∃ k : Nat, k ≤ n ∧ k ≤ 10 ∧ i = .int .i64 k ∧ ∃ A, Getting l k A) (fun i => 10 - (intOf i).toNat)
  case atStart => exact ⟨0, by omega, by omega, rfl, 0, Getting.start l⟩
  case round =>
    obtain ⟨k, hk, hk10, rfl, A, hG⟩ := hrel
    have HG := Lib.hid hG
    clear hG
    by_cases hlt : k < n ∧ k < 10
    · obtain ⟨hkn, hk9⟩ := hlt
      have hkl : Hid (k < l.length) := Lib.hid (by rw [HN.out]; exact hkn)
      have e0 : w.cell? ⟨b, off + k, none⟩ = some (.int .u8 ((l[k]'(hkl.out)).toNat : Int)) := H.out k hkl.out
      have HN1 := Lib.hid (fun h => HG.out.next hkl.out hk9 h)
      have HEQ := Lib.hid (fun h => refGet_eq HG.out hkl.out hk9 h)
      generalize l[k]'(hkl.out) = d at *
      by_cases hc1 : 128 ≤ d.toNat
      · have HNX := Lib.hid (HN1.out hc1)
        clear HN1 HEQ
        go_wp2_with fail
        go_round
        case rel => exact ⟨k + 1, by omega, by omega, by go_num, _, HNX.out⟩
        case measure => simp [intOf]; omega
      · have HEX := Lib.hid (HEQ.out hc1)
        clear HN1 HEQ
        have hd10 : decide (10 < k + 1) = false := decide_eq_false (by omega)
        go_wp2_with fail
        go_loop [6, 7] (fun v i => ∃ j : Nat, j ≤ k + 1 ∧ i = .int .i64 ((j : Int) - 1) ∧ v = .int .u64 (valW ((l.take (k + 1)).drop j) : Nat)) (fun _ i => (intOf i + 1).toNat)
        case atStart => exact ⟨k + 1, by omega, by go_num, by rw [List.drop_of_length_le (by simp; omega)]; rfl⟩
        case round =>
          obtain ⟨j, hj, rfl, rfl⟩ := hrel
          by_cases hj0 : 0 < j
          · obtain ⟨m, rfl⟩ : ∃ m, j = m + 1 := ⟨j - 1, by omega⟩
            have hml : Hid (m < l.length) := Lib.hid (by have := hkl.out; omega)
            have e1 : w.cell? ⟨b, off + m, none⟩ = some (.int .u8 ((l[m]'(hml.out)).toNat : Int)) := H.out m hml.out
            have HS : Hid (valW ((l.take (k + 1)).drop m) = ((l[m]'(hml.out)).toNat % 128 + 128 * valW ((l.take (k + 1)).drop (m + 1))) % 18446744073709551616) := Lib.hid (by
              rw [valW_drop _ m (by have := hkl.out; simp; omega)]
              rw [List.getElem_take])
            have hV := valW_lt ((l.take (k + 1)).drop (m + 1))
            generalize l[m]'(hml.out) = d1 at *
            generalize valW ((l.take (k + 1)).drop (m + 1)) = V at *
            have hd1 := d1.toNat_lt
            have m1 : ((m + 1 : Nat) : Int) - 1 = (m : Int) := by omega
            rw [m1]
            go_wp2_with fail
            go_round
            case rel => exact ⟨m, by omega, rfl, by rw [HS.out]; exact congrArg (Value.int .u64) (by rw [IntKind.wrap_u64, IntKind.wrap_u64]; omega)⟩
            case measure => simp [intOf]
          · obtain rfl : j = 0 := by omega
            rw [List.drop_zero]
            have hV := valW_lt (l.take (k + 1))
            have HIN : Hid (∀ W, Below w.heap.size w W → In mkB W (some ⟨b, off, none⟩) (k + 1) c (l.take (k + 1))) := Lib.hid (fun W hW => by
              have hin : In mkB w (some ⟨b, off, none⟩) (k + 1) c (l.take (k + 1)) := ⟨by have := hkl.out; simp; omega, .inr ⟨b, off, rfl, by omega, hb, fun i hi => by
                rw [List.getElem_take]
                exact H.out i (by simp at hi; omega)⟩⟩
              exact hin.step hW)
            have HB := fun W => refBytes_any (valW (l.take (k + 1))) W hV
            have z1 : ((0 : Nat) : Int) - 1 = -1 := rfl
            rw [z1]
            have z2 : ((k : Int) + 1).toNat = k + 1 := by omega
            have z3 : (0 : Int) ≤ (k : Int) + 1 := by omega
            have z4 : (k : Int) + 1 ≤ (c : Int) := by omega
            by_cases hEq : Lib.uvarint (valW (l.take (k + 1))) = l.take (k + 1)
            · have HD := Lib.hid (HEX.out.1 hEq)
              have HE : Hid (∀ W p1 n1 c1, In mkB W p1 n1 c1 (Lib.uvarint (valW (l.take (k + 1)))) → Below w.heap.size w W → Calls Try.prog 15 #[.slice p1 n1 c1, .slice (some ⟨b, off, none⟩) (k + 1) c] W fun e w' => e = .returned (.bool true) ∧ W = w') := Lib.hid (fun W p1 n1 c1 h1 h2 => by
                refine (equal_any p1 _ n1 (k + 1) c1 c _ _ W h1 (HIN.out W h2)).mono ?_
                rintro e w' ⟨rfl, rfl⟩
                exact ⟨ret_bool (decide_eq_true hEq), rfl⟩)
              clear hEq HEX
              generalize valW (l.take (k + 1)) = V at *
              go_wp2_with fail
              go_region_with (first | (go_at_call 16; refine (HB _).mono ?_; rintro e w1 ⟨v1, rfl, hown, hb1⟩; obtain ⟨p1, c1, rfl, hin1⟩ := in_of_row hown rfl; clear hown) | (go_at_call 15; refine (HE.out _ _ _ _ (by assumption) ?_).mono ?_; exact below_undrew (by assumption); rintro e w2 ⟨rfl, rfl⟩))
              all_goals
                go_wp2_with fail
                go_ret3
                obtain ⟨r1, r2, r3⟩ := get_some HD.out
                exact ⟨ret_get (by rw [r1]) (by rw [r2]; omega) r3, below_undrew (by assumption)⟩
            · have HD := Lib.hid (HEX.out.2 hEq)
              have HE : Hid (∀ W p1 n1 c1, In mkB W p1 n1 c1 (Lib.uvarint (valW (l.take (k + 1)))) → Below w.heap.size w W → Calls Try.prog 15 #[.slice p1 n1 c1, .slice (some ⟨b, off, none⟩) (k + 1) c] W fun e w' => e = .returned (.bool false) ∧ W = w') := Lib.hid (fun W p1 n1 c1 h1 h2 => by
                refine (equal_any p1 _ n1 (k + 1) c1 c _ _ W h1 (HIN.out W h2)).mono ?_
                rintro e w' ⟨rfl, rfl⟩
                exact ⟨ret_bool (decide_eq_false hEq), rfl⟩)
              clear hEq HEX
              generalize valW (l.take (k + 1)) = V at *
              go_wp2_with fail
              go_region_with (first | (go_at_call 16; refine (HB _).mono ?_; rintro e w1 ⟨v1, rfl, hown, hb1⟩; obtain ⟨p1, c1, rfl, hin1⟩ := in_of_row hown rfl; clear hown) | (go_at_call 15; refine (HE.out _ _ _ _ (by assumption) ?_).mono ?_; exact below_undrew (by assumption); rintro e w2 ⟨rfl, rfl⟩))
              all_goals
                go_wp2_with fail
                go_ret3
                obtain ⟨r1, r2, r3⟩ := get_none HD.out HNE.out
                exact ⟨ret_get (by rw [r1]; rfl) (by rw [r2]; rfl) r3, below_undrew (by assumption)⟩
    · have HD : Hid (dec 0 l = none) := Lib.hid (HG.out.over (by rw [HN.out]; exact hlt))
      by_cases hkn : n ≤ k
      · go_wp2_with fail
        go_ret3
        obtain ⟨r1, r2, r3⟩ := get_none HD.out HNE.out
        exact ⟨ret_get (by rw [r1]; rfl) (by rw [r2]; rfl) r3, Below.refl _ _⟩
      · have hk10' : 10 ≤ k := by omega
        go_wp2_with fail
        go_ret3
        obtain ⟨r1, r2, r3⟩ := get_none HD.out HNE.out
        exact ⟨ret_get (by rw [r1]; rfl) (by rw [r2]; rfl) r3, Below.refl _ _⟩

theorem refGet_any (p : Option Addr) (n c : Nat) (l : List UInt8) (w : World) (h : In mkB w p n c l) (hlim : n ≤ 1000) :
    Calls Try.prog 18 #[.slice p n c] w fun e w' => e = .returned (.tuple #[.int .u64 (getV l : Nat), .int .i64 (getK l : Nat), .int .i64 (getE l)]) ∧ Below w.heap.size w w' := by
  by_cases h0 : n = 0
  · subst h0
    obtain rfl := h.zero
    exact refGet_nothing p c w
  · obtain ⟨hn, h1 | ⟨b, off, rfl, hc, hb, hat⟩⟩ := h
    · omega
    · exact refGet_some l b off c n w hat hb hc hn.symm (by omega) hlim
end Go.Proofs.Ytlfnefgcndhomaa
