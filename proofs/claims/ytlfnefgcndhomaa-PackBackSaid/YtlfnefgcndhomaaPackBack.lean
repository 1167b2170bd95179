/-
  The walk of PackBack.
-/
import Derived.Test.YtlfnefgcndhomaaInts
import Derived.Test.YtlfnefgcndhomaaBytes
import Derived.Test.YtlfnefgcndhomaaAlive
namespace Go.Proofs.Ytlfnefgcndhomaa
open Go.RowKit
set_option linter.unusedVariables false

theorem packBack_long (x : Nat) (y : Int) (p q : Option Addr) (n c m d : Nat) (w : World) (hn : n ≤ 9223372036854775807) (hm : m ≤ 9223372036854775807) (h : 200 < n ∨ 200 < m) :
    Calls Try.prog 5 #[.int .u64 x, .int .i64 y, .slice p n c, .slice q m d] w fun e w' => e = .returned (.bool true) ∧ Below w.heap.size w w' := by
  by_cases h1 : 200 < n
  · clear h
    go_enter Try.func5, Try.ntmps5
    go_wp2_with (go_at_call 12; refine (alive_any _).mono ?_; rintro e w1 ⟨rfl, hb⟩)
    go_ret
    exact ⟨rfl, hb⟩
  · have h2 : 200 < m := by omega
    clear h
    go_enter Try.func5, Try.ntmps5
    go_wp2_with (go_at_call 12; refine (alive_any _).mono ?_; rintro e w1 ⟨rfl, hb⟩)
    go_ret
    exact ⟨rfl, hb⟩

theorem put_nil (x : Nat) (w : World) (hx : x < 18446744073709551616) : Calls Try.prog 14 #[.slice none 0 0, .int .u64 x] w fun e w' => ∃ p c, e = .returned (.slice p (Lib.uvarint x).length c) ∧ In mkB w' p (Lib.uvarint x).length c (Lib.uvarint x) ∧ Below w.heap.size w w' := by
  refine (put_any x none 0 0 [] w hx (In.nil _ _ _ _) (by omega)).mono ?_
  rintro e w' ⟨v', rfl, hown, hb⟩
  rw [List.nil_append] at hown
  obtain ⟨p, c, rfl, hin⟩ := in_of_row hown rfl
  exact ⟨p, c, rfl, hin, hb⟩
theorem bytesOf_inj {l k : List Int} (h1 : I64 l) (h2 : I64 k) (hl : l.length < 18446744073709551616) (hk : k.length < 18446744073709551616) : decide (bytesOf l = bytesOf k) = decide (l = k) := by
  rw [decide_eq_decide]
  constructor
  · intro h
    have e1 := intsOf_put l h1 hl
    have e2 := intsOf_put k h2 hk
    rw [h, e2] at e1
    exact (Option.some.inj e1).symm
  · rintro rfl; rfl

set_option maxRecDepth 10000 in
set_option maxHeartbeats 2000000 in
theorem packBack_short (x : Nat) (y : Int) (p q : Option Addr) (n c m d : Nat) (l k : List Int) (w : World) (hx : x < 18446744073709551616) (hy0 : -9223372036854775808 ≤ y) (hy1 : y ≤ 9223372036854775807) (hl : In mkI w p n c l) (hk : In mkI w q m d k) (hn : n ≤ 200) (hm : m ≤ 200) (hli : I64 l) (hki : I64 k) :
    Calls Try.prog 5 #[.int .u64 x, .int .i64 y, .slice p n c, .slice q m d] w fun e w' => e = .returned (.bool true) ∧ Below w.heap.size w w' := by
  have HL := Lib.hid hl
  have HK := Lib.hid hk
  have HLI := Lib.hid hli
  have HKI := Lib.hid hki
  have HLN := Lib.hid hl.1
  have HKN := Lib.hid hk.1
  have HU : Hid (dec 0 (Lib.uvarint x) = some (x, (Lib.uvarint x).length)) := Lib.hid (by simpa using dec_put x [] hx)
  have hu := Lib.uvarint_length64 hx
  clear hl hk hli hki
  have HPUT := fun w1 => put_nil x w1 hx
  generalize Lib.uvarint x = U at *
  go_enter Try.func5, Try.ntmps5
  go_wp2_with fail
  refine (HPUT _).mono ?_
  rintro e w1 ⟨p1, c1, rfl, hin1, hb1⟩
  have HG := get_contract p1 U.length c1 U x U.length HU.out (by omega) w1 hin1
  have hz1 := hb1.size
  clear hin1
  go_wp2_with fail
  refine HG.mono ?_
  rintro e w2 ⟨rfl, rfl⟩
  go_wp2_with (first | (go_at_call 11; refine (no_any _ _).mono ?_; rintro e w9 ⟨rfl, rfl⟩))
  refine (HPUT w1).mono ?_
  rintro e w2 ⟨p2, c2, rfl, hin2, hb2⟩
  have hz2 := hb2.size
  clear hin2 HG
  go_wp2_with fail
  refine (zig_any y w2 hy0 hy1).mono ?_
  rintro e w3 ⟨rfl, rfl⟩
  have HZ1 : Calls Try.prog 19 #[.int .u64 (zigN y : Nat)] w2 fun e w' => e = .returned (.int .i64 y) ∧ w2 = w' := by
    refine (zag_any (zigN y) w2 (zigN_lt hy0 hy1)).mono ?_
    rintro e w' ⟨rfl, rfl⟩
    exact ⟨ret_int (zag_zig y), rfl⟩
  have HZ2 : Calls Try.prog 20 #[.int .i64 (zagI x)] w2 fun e w' => e = .returned (.int .u64 (x : Int)) ∧ w2 = w' := by
    obtain ⟨r1, r2⟩ := zagI_range hx
    refine (zig_any (zagI x) w2 r1 r2).mono ?_
    rintro e w' ⟨rfl, rfl⟩
    exact ⟨ret_int (by rw [zig_zag x]), rfl⟩
  go_wp2_with fail
  refine HZ1.mono ?_
  rintro e w3 ⟨rfl, rfl⟩
  go_wp2_with fail
  refine (zig_any y w2 hy0 hy1).mono ?_
  rintro e w3 ⟨rfl, rfl⟩
  go_wp2_with fail
  refine (refZig_any y w2 hy0 hy1).mono ?_
  rintro e w3 ⟨rfl, rfl⟩
  go_wp2_with fail
  refine (zag_any x w2 hx).mono ?_
  rintro e w3 ⟨rfl, rfl⟩
  go_wp2_with fail
  refine HZ2.mono ?_
  rintro e w3 ⟨rfl, rfl⟩
  have hb02 : Below w.heap.size w w2 := hb1.trans (hb2.mono hz1)
  have HL2 := Lib.hid (HL.out.step hb02)
  have HK2 := Lib.hid (HK.out.step hb02)
  have hll : l.length ≤ 200 := by rw [← HLN.out]; exact hn
  have hkl : k.length ≤ 200 := by rw [← HKN.out]; exact hm
  clear HZ1 HZ2 HPUT HU
  go_wp2_with fail
  refine (bytes_any p n c l w2 HL2.out (by omega) HLI.out).mono ?_
  rintro e w3 ⟨v3, rfl, hown3, hb3⟩
  have hz3 := hb3.size
  have hlb := bytesOf_length HLI.out (by omega)
  have HBE := Lib.hid (bytesOf_inj HLI.out HKI.out (by omega) (by omega))
  have HIO := Lib.hid (intsOf_put l HLI.out (by omega))
  generalize bytesOf l = A at *
  obtain ⟨p3, c3, rfl, hin3⟩ := in_of_row hown3 rfl
  have HA3 := Lib.hid hin3
  have HK3 := Lib.hid (HK2.out.step hb3)
  clear hown3 hin3
  go_wp2_with fail
  refine (bytes_any q m d k w3 HK3.out (by omega) HKI.out).mono ?_
  rintro e w4 ⟨v4, rfl, hown4, hb4⟩
  have hz4 := hb4.size
  generalize bytesOf k = B at *
  obtain ⟨p4, c4, rfl, hin4⟩ := in_of_row hown4 rfl
  have HB4 := Lib.hid hin4
  have HA4 := Lib.hid (HA3.out.step hb4)
  clear hown4 hin4
  go_wp2_with fail
  refine (intsP_any p3 A.length c3 A w4 HA4.out (by omega)).mono ?_
  rintro e w5 ⟨hb5, ⟨hno, -⟩ | ⟨l', v5, hl', rfl, hown5⟩⟩
  · rw [HIO.out] at hno; simp at hno
  rw [HIO.out] at hl'
  obtain rfl : l = l' := Option.some.inj hl'
  have hz5 := hb5.size
  obtain ⟨p5, c5, rfl, hin5⟩ := in_of_row hown5 rfl
  have HI5 := Lib.hid hin5
  have hb05 : Below w.heap.size w w5 := ((hb02.trans (hb3.mono (by omega))).trans (hb4.mono (by omega))).trans (hb5.mono (by omega))
  have HB05 := Lib.hid hb05
  have HL5 := Lib.hid (HL.out.step hb05)
  have HA5 := Lib.hid (HA4.out.step hb5)
  have HB5 := Lib.hid (HB4.out.step hb5)
  clear hown5 hin5 hl' hb1 hb2 hb3 hb4 hb5 hb02 hb05
  go_wp2_with (first | (go_at_call 11; refine (no_any _ _).mono ?_; rintro e w9 ⟨rfl, rfl⟩))
  refine (ints_any _ _ _ _ _ _ _ _ w5 HI5.out HL5.out (by omega)).mono ?_
  rintro e w6 ⟨rfl, hb6⟩
  have hz6 := hb6.size
  rw [decide_eq_true rfl]
  have HA6 := Lib.hid (HA5.out.step hb6)
  have HB6 := Lib.hid (HB5.out.step hb6)
  have HL6 := Lib.hid (HL5.out.step hb6)
  have HK6 := Lib.hid ((HK.out.step HB05.out).step hb6)
  go_wp2_with fail
  refine (equal_any _ _ _ _ _ _ _ _ w6 HA6.out HB6.out).mono ?_
  rintro e w7 ⟨rfl, rfl⟩
  rw [HBE.out]
  go_wp2_with fail
  refine (ints_any _ _ _ _ _ _ _ _ w6 HL6.out HK6.out (by omega)).mono ?_
  rintro e w7 ⟨rfl, hb7⟩
  have hz7 := hb7.size
  generalize decide (l = k) = bb at *
  go_wp2_with (go_at_call 12; refine (alive_any _).mono ?_; rintro e w9 ⟨rfl, hb9⟩)
  go_ret
  exact ⟨rfl, ((HB05.out.trans (hb6.mono (by omega))).trans (hb7.mono (by omega))).trans (hb9.mono (by omega))⟩

theorem packBack_walk (x : Nat) (y : Int) (p : Option Addr) (n c : Nat) (l : List Int) (q : Option Addr) (m d : Nat) (k : List Int) (w : World) (hx : x < 18446744073709551616) (hy : (Lit.int .i64 y).wf = true) (hn : n ≤ 9223372036854775807) (hl : In mkI w p n c l) (hli : ∀ x ∈ l, -9223372036854775808 ≤ x ∧ x ≤ 9223372036854775807) (hm : m ≤ 9223372036854775807) (hk : In mkI w q m d k) (hki : ∀ x ∈ k, -9223372036854775808 ≤ x ∧ x ≤ 9223372036854775807) :
    Calls Try.prog 5 #[.int .u64 x, .int .i64 y, .slice p n c, .slice q m d] w fun e w' => e = .returned (.bool true) ∧ Below w.heap.size w w' := by
  have hy2 : -9223372036854775808 ≤ y ∧ y ≤ 9223372036854775807 := by simp [Lit.wf, IntKind.min, IntKind.max, IntKind.bits, IntKind.signed] at hy; omega
  by_cases h : 200 < n ∨ 200 < m
  · exact packBack_long x y p q n c m d w hn hm h
  · exact packBack_short x y p q n c m d l k w hx hy2.1 hy2.2 hl hk (by omega) (by omega) hli hki
end Go.Proofs.Ytlfnefgcndhomaa
