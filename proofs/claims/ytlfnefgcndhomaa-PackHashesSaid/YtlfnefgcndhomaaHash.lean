/-
  Hash, and the document's.
-/
import Derived.Test.YtlfnefgcndhomaaAlive
namespace Go.Proofs.Ytlfnefgcndhomaa
open Go.RowKit
set_option linter.unusedVariables false

def hashN (l : List UInt8) : Nat := l.foldl (fun h c => (h ^^^ c.toNat) * 16777619 % 4294967296) 2166136261
theorem hashN_lt (l : List UInt8) : hashN l < 4294967296 := by
  have : ∀ (l : List UInt8) (a : Nat), a < 4294967296 → l.foldl (fun h c => (h ^^^ c.toNat) * 16777619 % 4294967296) a < 4294967296 := by
    intro l
    induction l with
    | nil => intro a h; exact h
    | cons x r ih => intro a h; exact ih _ (Nat.mod_lt _ (by omega))
  exact this l _ (by omega)
theorem take_snoc (s : ByteArray) (k : Nat) (h : k < s.size) : s.data.toList.take (k + 1) = s.data.toList.take k ++ [s[k]] := by
  rw [List.take_succ_eq_append_getElem (by simpa using h)]; rfl
theorem hash_snoc (s : ByteArray) (k : Nat) (h : k < s.size) : hashN (s.data.toList.take (k + 1)) = (hashN (s.data.toList.take k) ^^^ s[k].toNat) * 16777619 % 4294967296 := by
  rw [take_snoc s k h]
  unfold hashN
  rw [List.foldl_append, List.foldl_cons, List.foldl_nil]
theorem xor_lt (h : Nat) (c : UInt8) (hh : h < 4294967296) : h ^^^ c.toNat < 4294967296 := Nat.xor_lt_two_pow (n := 32) hh (by have := c.toNat_lt; omega)

set_option maxHeartbeats 400000 in
theorem hash_any (s : ByteArray) (w : World) (hs : s.size ≤ 1000) :
    Calls Try.prog 25 #[.string s] w fun e w' => e = .returned (.int .u32 (hashN s.data.toList : Nat)) ∧ w = w' := by
  go_enter Try.func25, Try.ntmps25
  go_wp2
  go_loop [3, 7] (fun h i => ∃ k : Nat, k ≤ s.size ∧ i = .int .i64 k ∧ h = .int .u32 (hashN (s.data.toList.take k) : Nat)) (fun _ i => s.size - (intOf i).toNat)
  case atStart => exact ⟨0, Nat.zero_le _, rfl, rfl⟩
  case round =>
    obtain ⟨k, hk, rfl, rfl⟩ := hrel
    have hl := hashN_lt (s.data.toList.take k)
    by_cases hlt : k < s.size
    · have HS := Lib.hid (hash_snoc s k hlt)
      have hx : bits .xor .u32 ((hashN (s.data.toList.take k) : Nat) : Int) ((s[k].toNat : Int) % 4294967296) = ((hashN (s.data.toList.take k) ^^^ s[k].toNat : Nat) : Int) := by
        have hc := s[k].toNat_lt
        rw [show (s[k].toNat : Int) % 4294967296 = (s[k].toNat : Int) by omega]
        exact u32_xor_nat _ _ hl (by omega)
      have hxl := xor_lt _ s[k] hl
      generalize hashN (s.data.toList.take k) = h at *
      go_wp2
      go_round
      case rel => exact ⟨k + 1, by omega, by go_num, by rw [HS.out]; go_num⟩
      case measure => simp [intOf]; omega
    · go_wp2
      go_ret
      exact ⟨ret_int (by rw [List.take_of_length_le (by simp; omega)]), rfl⟩

set_option maxHeartbeats 400000 in
theorem refHash_any (s : ByteArray) (w : World) (hs : s.size ≤ 1000) :
    Calls Try.prog 26 #[.string s] w fun e w' => e = .returned (.int .u32 (hashN s.data.toList : Nat)) ∧ w = w' := by
  go_enter Try.func26, Try.ntmps26
  go_wp2
  go_loop [3, 4] (fun h i => ∃ k : Nat, k ≤ s.size ∧ i = .int .i64 k ∧ h = .int .u64 (hashN (s.data.toList.take k) : Nat)) (fun _ i => s.size - (intOf i).toNat)
  case atStart => exact ⟨0, Nat.zero_le _, rfl, rfl⟩
  case round =>
    obtain ⟨k, hk, rfl, rfl⟩ := hrel
    have hl := hashN_lt (s.data.toList.take k)
    by_cases hlt : k < s.size
    · have HS := Lib.hid (hash_snoc s k hlt)
      have hx : bits .xor .u64 ((hashN (s.data.toList.take k) : Nat) : Int) (IntKind.u64.wrap (s[k].toNat : Int)) = ((hashN (s.data.toList.take k) ^^^ s[k].toNat : Nat) : Int) := by
        have hc := s[k].toNat_lt
        rw [show IntKind.u64.wrap (s[k].toNat : Int) = (s[k].toNat : Int) by rw [IntKind.wrap_u64]; omega]
        exact u64_xor_nat _ _ (by omega) (by omega)
      have hxl := xor_lt _ s[k] hl
      generalize hashN (s.data.toList.take k) = h at *
      go_wp2
      go_round
      case rel => exact ⟨k + 1, by omega, by go_num, by rw [HS.out]; go_num⟩
      case measure => simp [intOf]; omega
    · have HE : Hid (s.data.toList.take k = s.data.toList) := Lib.hid (List.take_of_length_le (by simp; omega))
      go_wp2
      go_ret
      exact ⟨ret_int (by rw [HE.out]), rfl⟩

theorem packHashes_walk (s : ByteArray) (w : World) (hs : s.size ≤ 9223372036854775807) :
    Calls Try.prog 7 #[.string s] w fun e w' => e = .returned (.bool true) ∧ Below w.heap.size w w' := by
  have H0 : ∀ w, Calls Try.prog 25 #[.string ⟨#[]⟩] w fun e w' => e = .returned (.int .u32 2166136261) ∧ w = w' := fun w => hash_any ⟨#[]⟩ w (by decide)
  by_cases h : 1000 < s.size
  · go_enter Try.func7, Try.ntmps7
    go_wp2_with (first | (go_at_call 25; refine (H0 _).mono ?_; rintro e w1 ⟨rfl, rfl⟩) | (go_at_call 12; refine (alive_any _).mono ?_; rintro e w1 ⟨rfl, hb⟩))
    go_ret
    exact ⟨rfl, hb⟩
  · have h1 := fun w => hash_any s w (by omega)
    have h2 := fun w => refHash_any s w (by omega)
    generalize hashN s.data.toList = x at *
    go_enter Try.func7, Try.ntmps7
    go_wp2_with fail
    refine (h1 _).mono ?_
    rintro e w1 ⟨rfl, rfl⟩
    go_wp2_with fail
    refine (h2 _).mono ?_
    rintro e w1 ⟨rfl, rfl⟩
    go_wp2_with (first | (go_at_call 25; refine (H0 _).mono ?_; rintro e w1 ⟨rfl, rfl⟩) | (go_at_call 12; refine (alive_any _).mono ?_; rintro e w1 ⟨rfl, hb⟩))
    go_ret
    exact ⟨rfl, hb⟩
end Go.Proofs.Ytlfnefgcndhomaa
