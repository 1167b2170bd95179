/-
  pack.Bytes: a list's bytes.
-/
import Derived.Test.YtlfnefgcndhomaaListB
import Derived.Test.YtlfnefgcndhomaaNum
import Derived.Outline
namespace Go.Proofs.Ytlfnefgcndhomaa
open Go.RowKit
set_option linter.unusedVariables false

def soFar (l : List Int) (k : Nat) : List UInt8 := Lib.uvarint l.length ++ putL (l.take k)
theorem soFar_zero (l : List Int) : soFar l 0 = Lib.uvarint l.length := by simp [soFar, putL]
theorem soFar_next (l : List Int) (k : Nat) (h : k < l.length) : soFar l (k + 1) = soFar l k ++ Lib.uvarint (zigN l[k]) := by
  unfold soFar
  rw [List.take_succ_eq_append_getElem h, putL_snoc, List.append_assoc]
theorem soFar_all (l : List Int) (k : Nat) (h : l.length ≤ k) : soFar l k = bytesOf l := by
  unfold soFar bytesOf
  rw [List.take_of_length_le h]
theorem soFar_length {l : List Int} (h : I64 l) (k : Nat) (hl : l.length ≤ 1000) : (soFar l k).length ≤ 100000 := by
  have h1 := putL_length (l := l.take k) (fun x hx => h x (List.mem_of_mem_take hx))
  have h2 := Lib.uvarint_length64 (x := l.length) (by omega)
  have h3 : (l.take k).length ≤ l.length := List.length_take_le' _ _
  simp only [soFar, List.length_append]
  omega

set_option maxHeartbeats 1000000 in
theorem bytes_some (l : List Int) (b off c n : Nat) (w : World) (hat : At mkI w b off l) (hb : b < w.heap.size) (hc : n ≤ c) (hl : n ≤ 1000) (hn : l.length = n) (hI : I64 l) :
    Calls Try.prog 22 #[.slice (some ⟨b, off, none⟩) n c] w fun e w' => ∃ v', e = .returned v' ∧ OwnB w' w.heap.size v' (bytesOf l) ∧ Below w.heap.size w w' := by
  have H := Lib.hid hat
  have HN := Lib.hid hn
  have HI := Lib.hid hI
  have HV : Hid (OwnB w w.heap.size (.slice none 0 0) []) := Lib.hid (World.ownsRow_nil _ _ _ _)
  have HLE := Lib.hid (fun k => soFar_length hI k (by omega))
  clear hat hn hI
  go_enter Try.func22, Try.ntmps22
  go_wp2_with fail
  refine (append_any n _ [] w w.heap.size (by omega) HV.out (by simp) (Nat.le_refl _)).mono ?_
  rintro e w1 ⟨v1, rfl, hown1, hb1⟩
  have HO1 : Hid (OwnB w1 w.heap.size v1 (soFar l 0)) := Lib.hid (by rw [soFar_zero, HN.out]; exact hown1)
  have HB1 := Lib.hid hb1
  clear hown1 hb1 HV
  go_wp2_with fail
  go_loopw [3, 12] (fun v i wr => ∃ k : Nat, k ≤ n ∧ i = .int .i64 k ∧ OwnB wr w.heap.size v (soFar l k) ∧ Below w.heap.size w wr) (fun _ i _ => n - (intOf i).toNat)
  case atStart => exact ⟨0, by omega, rfl, HO1.out, HB1.out⟩
  case round =>
    obtain ⟨k, hk, rfl, hown, hbe⟩ := hrel
    have HO := Lib.hid hown
    have HB := Lib.hid hbe
    have hz := hbe.size
    by_cases hlt : k < n
    · have hkl : Hid (k < l.length) := Lib.hid (by rw [HN.out]; exact hlt)
      have e0 : wr.cell? ⟨b, off + k, none⟩ = some (.int .i64 (l[k]'(hkl.out))) := (hbe.cell (p := ⟨b, off + k, none⟩) hb).trans (H.out k hkl.out)
      have HS := Lib.hid (soFar_next l k hkl.out)
      have hr := HI.out _ (List.getElem_mem hkl.out)
      generalize l[k]'(hkl.out) = x at *
      obtain ⟨hx0, hx1⟩ := hr
      clear hown hbe HO1 HB1
      go_wp2_with fail
      refine (zig_any x _ hx0 hx1).mono ?_
      rintro e w2 ⟨rfl, rfl⟩
      go_wp2_with fail
      refine (append_any (zigN x) _ (soFar l k) wr w.heap.size (zigN_lt hx0 hx1) HO.out (HLE.out k) hz).mono ?_
      rintro e w2 ⟨v2, rfl, hown2, hb2⟩
      have HO2 : Hid (OwnB w2 w.heap.size v2 (soFar l (k + 1))) := Lib.hid (by rw [HS.out]; exact hown2)
      clear hown2
      go_wp2_with fail
      go_roundw
      case rel => exact ⟨k + 1, by omega, by go_num, HO2.out, HB.out.trans hb2⟩
      case measure => simp [intOf]; omega
    · have HA := Lib.hid (soFar_all l k (by rw [HN.out]; omega))
      clear hown hbe
      go_wp2_with fail
      go_ret
      exact ⟨_, rfl, by rw [← HA.out]; exact HO.out, HB.out⟩
theorem bytes_none (p : Option Addr) (c : Nat) (w : World) :
    Calls Try.prog 22 #[.slice p 0 c] w fun e w' => ∃ v', e = .returned v' ∧ OwnB w' w.heap.size v' (bytesOf []) ∧ Below w.heap.size w w' := by
  have HV : Hid (OwnB w w.heap.size (.slice none 0 0) []) := Lib.hid (World.ownsRow_nil _ _ _ _)
  go_enter Try.func22, Try.ntmps22
  go_wp2_with fail
  refine (append_any 0 _ [] w w.heap.size (by omega) HV.out (by simp) (Nat.le_refl _)).mono ?_
  rintro e w1 ⟨v1, rfl, hown1, hb1⟩
  have HO1 : Hid (OwnB w1 w.heap.size v1 (bytesOf [])) := Lib.hid (by simpa [bytesOf, putL] using hown1)
  clear hown1
  go_wp2_with fail
  refine wp_loop_rounds 1 ?_
  rw [rounds_succ]
  go_wp2_with fail
  go_ret
  exact ⟨_, rfl, HO1.out, hb1⟩
/-- pack.Bytes. -/
theorem bytes_any (p : Option Addr) (n c : Nat) (l : List Int) (w : World) (h : In mkI w p n c l) (hl : n ≤ 1000) (hI : I64 l) :
    Calls Try.prog 22 #[.slice p n c] w fun e w' => ∃ v', e = .returned v' ∧ OwnB w' w.heap.size v' (bytesOf l) ∧ Below w.heap.size w w' := by
  obtain ⟨rfl, h0 | ⟨b, off, rfl, hc, hb, hat⟩⟩ := h
  · have : l = [] := List.length_eq_zero_iff.1 h0
    subst this
    exact bytes_none p c w
  · exact bytes_some l b off c l.length w hat hb hc hl rfl hI
end Go.Proofs.Ytlfnefgcndhomaa
