/-
  OnesCount64: how many bits a word has.
-/
import Derived.Test.YtlfnefgcndhomaaPop
import Derived.Laws.BitsLemmas
namespace Go.Proofs.Ytlfnefgcndhomaa
open Go.RowKit
set_option linter.unusedVariables false

theorem and127 (x : Int) (h0 : 0 ≤ x) (h1 : x < 9223372036854775808) : bits .and .i64 x 127 = x % 128 := by
  have h := bits_mask .i64 63 (by decide) (fun n h0 h1 => by rw [IntKind.wrap_i64]; omega) 7 (by decide) x h0 (by omega)
  simpa using h
theorem and_int (x : Nat) (m : Nat) (hx : x < 18446744073709551616) (hm : m < 18446744073709551616) : ∃ A : Int, bits .and .u64 (x : Int) (m : Int) = A ∧ A = ((x &&& m : Nat) : Int) ∧ 0 ≤ A ∧ A ≤ (m : Int) :=
  ⟨_, u64_and_nat x m hx hm, rfl, by omega, by have : x &&& m ≤ m := Nat.and_le_right; omega⟩

set_option maxRecDepth 10000 in
set_option maxHeartbeats 1000000 in
theorem ones_walk (x A B C D E : Int) (w : World) (h0 : 0 ≤ x) (h1 : x < 18446744073709551616)
    (eA : bits .and .u64 (x / 2) 6148914691236517205 = A) (eB : bits .and .u64 x 6148914691236517205 = B) (a0 : 0 ≤ A) (a1 : A ≤ 6148914691236517205) (b0 : 0 ≤ B) (b1 : B ≤ 6148914691236517205)
    (eC : bits .and .u64 ((A + B) / 4) 3689348814741910323 = C) (eD : bits .and .u64 (A + B) 3689348814741910323 = D) (c0 : 0 ≤ C) (c1 : C ≤ 3689348814741910323) (d0 : 0 ≤ D) (d1 : D ≤ 3689348814741910323)
    (eE : bits .and .u64 ((C + D) / 16 + (C + D)) 1085102592571150095 = E) (e0 : 0 ≤ E) (e1 : E ≤ 1085102592571150095)
    (eF : bits .and .i64 (E + E / 256 + (E + E / 256) / 65536 + (E + E / 256 + (E + E / 256) / 65536) / 4294967296) 127 = (E + E / 256 + (E + E / 256) / 65536 + (E + E / 256 + (E + E / 256) / 65536) / 4294967296) % 128) :
    Calls Try.prog 42 #[.int .u64 x] w fun e w' => e = .returned (.int .i64 ((E + E / 256 + (E + E / 256) / 65536 + (E + E / 256 + (E + E / 256) / 65536) / 4294967296) % 128)) ∧ w = w' := by
  go_enter Try.func42, Try.ntmps42
  go_wp2
  go_ret
  exact ⟨rfl, rfl⟩

theorem ones_any (x : Nat) (w : World) (hx : x < 18446744073709551616) :
    Calls Try.prog 42 #[.int .u64 (x : Int)] w fun e w' => e = .returned (.int .i64 (popB 64 x : Nat)) ∧ w = w' := by
  have hA := u64_and_nat (x / 2) m0 (by omega) (by decide)
  have hB := u64_and_nat x m0 hx (by decide)
  have hAl : x / 2 &&& m0 ≤ m0 := Nat.and_le_right
  have hBl : x &&& m0 ≤ m0 := Nat.and_le_right
  have hm0 : m0 = 6148914691236517205 := rfl
  have hm1 : m1 = 3689348814741910323 := rfl
  have hm2 : m2 = 1085102592571150095 := rfl
  have hY : o1 x = (x / 2 &&& m0) + (x &&& m0) := rfl
  have hYl : o1 x < 18446744073709551616 := by omega
  have hC := u64_and_nat (o1 x / 4) m1 (by omega) (by decide)
  have hD := u64_and_nat (o1 x) m1 hYl (by decide)
  have hCl : o1 x / 4 &&& m1 ≤ m1 := Nat.and_le_right
  have hDl : o1 x &&& m1 ≤ m1 := Nat.and_le_right
  have hZ : o2 (o1 x) = (o1 x / 4 &&& m1) + (o1 x &&& m1) := rfl
  have hE := u64_and_nat (o2 (o1 x) / 16 + o2 (o1 x)) m2 (by omega) (by decide)
  have hEl : o3 (o2 (o1 x)) ≤ m2 := Nat.and_le_right
  have hU : o3 (o2 (o1 x)) = (o2 (o1 x) / 16 + o2 (o1 x)) &&& m2 := rfl
  have hres := ones_eq x hx
  have hV : o6 (o5 (o4 (o3 (o2 (o1 x))))) = o3 (o2 (o1 x)) + o3 (o2 (o1 x)) / 256 + (o3 (o2 (o1 x)) + o3 (o2 (o1 x)) / 256) / 65536 + (o3 (o2 (o1 x)) + o3 (o2 (o1 x)) / 256 + (o3 (o2 (o1 x)) + o3 (o2 (o1 x)) / 256) / 65536) / 4294967296 := rfl
  rw [hV] at hres
  rw [← hU] at hE
  clear hU hV
  generalize o3 (o2 (o1 x)) = E at *
  generalize x / 2 &&& m0 = A at *
  generalize x &&& m0 = B at *
  generalize o1 x / 4 &&& m1 = C at *
  generalize o1 x &&& m1 = D at *
  have z1 : ((x / 2 : Nat) : Int) = (x : Int) / 2 := by omega
  have z2 : ((o1 x : Nat) : Int) = (A : Int) + B := by omega
  have z3 : ((o1 x / 4 : Nat) : Int) = ((A : Int) + B) / 4 := by omega
  have z4 : ((o2 (o1 x) / 16 + o2 (o1 x) : Nat) : Int) = ((C : Int) + D) / 16 + ((C : Int) + D) := by omega
  rw [z1] at hA
  rw [z3] at hC
  rw [z2] at hD
  rw [z4] at hE
  have hW := ones_walk x A B C D E w (by omega) (by omega) hA hB (by omega) (by omega) (by omega) (by omega) hC hD (by omega) (by omega) (by omega) (by omega) hE (by omega) (by omega) (and127 _ (by omega) (by omega))
  refine hW.mono ?_
  rintro e w' ⟨rfl, rfl⟩
  obtain ⟨V1, hV1⟩ : ∃ V1 : Nat, V1 = E + E / 256 := ⟨_, rfl⟩
  obtain ⟨V2, hV2⟩ : ∃ V2 : Nat, V2 = V1 + V1 / 65536 := ⟨_, rfl⟩
  obtain ⟨V3, hV3⟩ : ∃ V3 : Nat, V3 = V2 + V2 / 4294967296 := ⟨_, rfl⟩
  rw [← hV1, ← hV2, ← hV3] at hres
  have i1 : (E : Int) + (E : Int) / 256 = (V1 : Int) := by omega
  have i2 : (V1 : Int) + (V1 : Int) / 65536 = (V2 : Int) := by omega
  have i3 : (V2 : Int) + (V2 : Int) / 4294967296 = (V3 : Int) := by omega
  exact ⟨ret_int (by rw [i1, i2, i3, ← hres]; omega), rfl⟩
end Go.Proofs.Ytlfnefgcndhomaa
