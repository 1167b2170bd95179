/-
  The chapter's example; whether two rows of bytes are the same.
-/
import Derived.Test.YtlfnefgcndhomaaList
import Derived.Test.YtlfnefgcndhomaaPut
import Derived.Laws.BytesArg
namespace Go.Proofs.Ytlfnefgcndhomaa
open Go.RowKit
set_option linter.unusedVariables false

theorem conv_any {w : World} {p : Option Addr} {n cap : Nat} {l : List UInt8} (h : In mkB w p n cap l) : (convert 32 9 (.slice p n cap)).run Try.prog w = .ok (.string ⟨l.toArray⟩) w := by
  obtain ⟨rfl, h0 | ⟨b, off, rfl, hc, hb, hat⟩⟩ := h
  · obtain rfl : l = [] := List.length_eq_zero_iff.1 h0
    cases p with
    | none => exact run_convert_bytes_nil w 32 5 Try.underlying32 Try.underlying5 _ _ 9 Try.underlying9
    | some a =>
      rw [run_convert_bytes_string w 32 9 5 _ _ cap Try.underlying32 Try.underlying5 Try.underlying9]
      rw [run_bytesToString w a _ cap [] (by simpa using run_loadCells_list (P := Try.prog) w a [] (fun j v hj => by simp at hj))]
      rfl
  · rw [run_convert_bytes_arg w 32 5 Try.underlying32 Try.underlying5 b off l.length cap (l.map fun c => (c.toNat : Int)) (by simp) (fun i hi => by
      rw [hat i hi, List.getD_eq_getElem?_getD, List.getElem?_map, List.getElem?_eq_getElem hi]; rfl) 9 Try.underlying9]
    congr 3
    unfold strOfNums
    congr 2
    rw [List.map_map]
    conv => rhs; rw [← List.map_id l]
    refine List.map_congr_left fun c _ => ?_
    simp
theorem str_eq (l m : List UInt8) : ((⟨l.toArray⟩ : ByteArray).toList == (⟨m.toArray⟩ : ByteArray).toList) = decide (l = m) := by
  rw [ByteArray.toList_eq, ByteArray.toList_eq]
  rw [Bool.eq_iff_iff, beq_iff_eq, decide_eq_true_eq]

theorem equal_any (p q : Option Addr) (n n' cap cap' : Nat) (l m : List UInt8) (w : World) (h : In mkB w p n cap l) (h' : In mkB w q n' cap' m) :
    Calls Try.prog 15 #[.slice p n cap, .slice q n' cap'] w fun e w' => e = .returned (.bool (decide (l = m))) ∧ w = w' := by
  have h1 := conv_any h
  have h2 := conv_any h'
  clear h h'
  go_enter Try.func15, Try.ntmps15
  go_wp2
  go_ret
  exact ⟨ret_bool (by rw [Bool.eq_iff_iff, beq_iff_eq, decide_eq_true_eq]), rfl⟩

theorem uv300 : Lib.uvarint 300 = [172, 2] := by
  rw [Lib.uvarint_big (by omega), Lib.uvarint_small (by omega)]; rfl

theorem in_two (w : World) (k : IntKind) (x y : Int) (T : TypeId) {α : Type} (mk : α → Value) (a b : α) (ha : mk a = .int k x) (hb : mk b = .int k y) : In mk (w.alloc (.cells #[.int k x, .int k y] T)) (some ⟨w.heap.size, 0, none⟩) 2 2 [a, b] := by
  refine ⟨rfl, .inr ⟨w.heap.size, 0, rfl, Nat.le_refl _, by simp, fun i hi => ?_⟩⟩
  match i, hi with
  | 0, _ => simp [go_sem, ha]
  | 1, _ => simp [go_sem, hb]

theorem ofEx : ofW [1, 64] = [2, 1] := by decide +kernel
theorem allEx : allW [2, 1] = [1, 64] := by decide +kernel

set_option maxHeartbeats 1000000 in
theorem alive_any (w : World) :
    Calls Try.prog 12 #[] w fun e w' => e = .returned (.bool true) ∧ Below w.heap.size w w' := by
  go_enter Try.func12, Try.ntmps12
  go_wp2_with fail
  refine (place_yes 1 2 3 w (by omega) (by omega) (by omega)).mono ?_
  rintro e w0 ⟨rfl, rfl⟩
  go_wp2_with fail
  refine (put_any 300 none 0 0 [] w (by omega) (In.nil _ _ _ _) (by omega)).mono ?_
  rintro e w1 ⟨v1, rfl, hown, hb1⟩
  rw [uv300, List.nil_append] at hown
  have hown2 : w1.ownsRow w.heap.size 5 1 v1 2 ([172, 2].map mkB) := hown
  obtain ⟨p, c, rfl, hin⟩ := in_of_row hown2 rfl
  have h1 := conv_any hin
  have h2 := conv_any (in_two w1 .u8 172 2 5 mkB 172 2 rfl rfl)
  have hz1 := hb1.size
  clear hown hin hown2
  go_wp2_with (first | (go_at_call 11; refine (no_any _ _).mono ?_; rintro e w5 ⟨rfl, rfl⟩) | (go_at_call 20; refine (zig_any (-3) _ (by omega) (by omega)).mono ?_; rintro e w5 ⟨rfl, rfl⟩))
  have hin3 := in_two (w1.alloc (.cells #[.int .u8 172, .int .u8 2] 5)) .i64 1 64 3 mkI 1 64 rfl rfl
  rw [World.size_alloc] at hin3
  have hb2 : Below w.heap.size w ((w1.alloc (.cells #[.int .u8 172, .int .u8 2] 5)).alloc (.cells #[.int .i64 1, .int .i64 64] 3)) := (hb1.alloc hz1 _).alloc (by simp; omega) _
  have hz2 : w.heap.size ≤ ((w1.alloc (.cells #[.int .u8 172, .int .u8 2] 5)).alloc (.cells #[.int .i64 1, .int .i64 64] 3)).heap.size := by simp; omega
  clear h1 h2
  generalize (w1.alloc (.cells #[.int .u8 172, .int .u8 2] 5)).alloc (.cells #[.int .i64 1, .int .i64 64] 3) = w2 at *
  refine (of_any _ 2 2 [1, 64] w2 hin3 (by omega)).mono ?_
  rintro e w3 ⟨v3, rfl, hown3, hb3⟩
  have hz3 := hb3.size
  rw [ofEx] at hown3
  have hown4 : w3.ownsRow w2.heap.size 23 1 v3 2 ([2, 1].map mkW) := hown3
  obtain ⟨p3, c3, rfl, hin4⟩ := in_of_row hown4 rfl
  clear hown3 hown4 hin3
  go_wp2_with fail
  refine (list_any p3 2 c3 [2, 1] w3 hin4 (by omega) (by intro x hx; simp at hx; omega)).mono ?_
  rintro e w4 ⟨v4, rfl, hown4, hb4⟩
  have hz4 := hb4.size
  rw [allEx] at hown4
  have hown5 : w4.ownsRow w3.heap.size 3 1 v4 2 ([1, 64].map mkI) := hown4
  obtain ⟨p4, c4, rfl, hin5⟩ := in_of_row hown5 rfl
  clear hown4 hown5 hin4
  go_wp2_with fail
  have hb5 : Below w4.heap.size w4 (w4.alloc (.cells #[.int .i64 1, .int .i64 64] 3)) := (Below.refl _ _).alloc (Nat.le_refl _) _
  refine (ints_any p4 _ 2 2 c4 2 [1, 64] [1, 64] _ (hin5.step hb5) (in_two w4 .i64 1 64 3 mkI 1 64 rfl rfl) (by omega)).mono ?_
  rintro e w5 ⟨rfl, hb6⟩
  rw [decide_eq_true rfl]
  go_wp2_with fail
  go_ret
  refine ⟨rfl, ?_⟩
  exact (((hb2.trans (hb3.mono hz2)).trans (hb4.mono (by omega))).trans (hb5.mono (by omega))).trans (hb6.mono (by simp; omega))
end Go.Proofs.Ytlfnefgcndhomaa
