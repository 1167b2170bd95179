/-
  The walk of PackNumbers.
-/
import Derived.Test.YtlfnefgcndhomaaOnto
import Derived.Test.YtlfnefgcndhomaaRefGet
namespace Go.Proofs.Ytlfnefgcndhomaa
open Go.RowKit
set_option linter.unusedVariables false

theorem packNumbers_long (x : Nat) (p q : Option Addr) (n c m d : Nat) (w : World) (hn : n ≤ 9223372036854775807) (hm : m ≤ 9223372036854775807) (h : 100 < n ∨ 100 < m) :
    Calls Try.prog 4 #[.int .u64 x, .slice p n c, .slice q m d] w fun e w' => e = .returned (.bool true) ∧ Below w.heap.size w w' := by
  by_cases h1 : 100 < n
  · clear h
    go_enter Try.func4, Try.ntmps4
    go_wp2_with (go_at_call 12; refine (alive_any _).mono ?_; rintro e w1 ⟨rfl, hb⟩)
    go_ret
    exact ⟨rfl, hb⟩
  · have h2 : 100 < m := by omega
    clear h
    go_enter Try.func4, Try.ntmps4
    go_wp2_with (go_at_call 12; refine (alive_any _).mono ?_; rintro e w1 ⟨rfl, hb⟩)
    go_ret
    exact ⟨rfl, hb⟩

theorem below_made {w w1 : World} (o : Obj) {n c : Nat} (hg : (w.alloc o).grownBy w1 (Value.slice (some ⟨w.heap.size, 0, none⟩) n c).ownBlock) : Below w.heap.size w w1 :=
  ((Below.refl _ w).alloc (Nat.le_refl _) o).grown hg (by simp) (fun k hk => by simp [Value.ownBlock] at hk; omega)
theorem in_three (w : World) : In mkB (w.alloc (.cells #[.int .u8 7, .int .u8 7, .int .u8 7] 5)) (some ⟨w.heap.size, 0, none⟩) 3 3 [7, 7, 7] := by
  refine ⟨rfl, .inr ⟨w.heap.size, 0, rfl, Nat.le_refl _, by simp, fun i hi => ?_⟩⟩
  match i, hi with
  | 0, _ => simp [go_sem]
  | 1, _ => simp [go_sem]
  | 2, _ => simp [go_sem]

set_option maxRecDepth 10000 in
set_option maxHeartbeats 2000000 in
theorem packNumbers_short (x : Nat) (p q : Option Addr) (n c m d : Nat) (l k : List UInt8) (w : World) (hx : x < 18446744073709551616) (hl : In mkB w p n c l) (hk : In mkB w q m d k) (hn : n ≤ 100) (hm : m ≤ 100) :
    Calls Try.prog 4 #[.int .u64 x, .slice p n c, .slice q m d] w fun e w' => e = .returned (.bool true) ∧ Below w.heap.size w w' := by
  obtain ⟨i0, hi0, hy0, hy1, hy2⟩ := info_parts info5
  have HL := Lib.hid hl
  have HK := Lib.hid hk
  have HLN := Lib.hid hl.1
  clear hl hk
  go_enter Try.func4, Try.ntmps4
  go_wp2_with (at_builtin; refine wpList_append_in _ rfl (.tmp 24) (.tmp 25) 32 rfl w.heap.size 5 i0 (.int .u8 0) 1 Try.underlying32 hi0 hy0 hy1 hy2 rfl _ 0 [] rfl (World.ownsRow_made w #[] 0 (Nat.le_refl _) (Nat.zero_le _) rfl) mkB oneB p n c l rfl (HL.out.step ((Below.refl _ _).alloc (Nat.le_refl _) _)) (by unfold maxLen; omega) (by omega) (by simp) ?_)
  intro v1 w2 hown1 hgrow1
  have hb2 := below_made _ hgrow1
  have hz2 := hb2.size
  have HO1 : Hid (w2.ownsRow w.heap.size 5 1 v1 n (l.map mkB)) := Lib.hid (by simpa using hown1)
  clear hown1 hgrow1
  go_wp2_with (at_builtin; refine wpList_append_in _ rfl (.tmp 26) (.tmp 27) 32 rfl w.heap.size 5 i0 (.int .u8 0) 1 Try.underlying32 hi0 hy0 hy1 hy2 rfl _ n (l.map mkB) rfl (World.ownsRow.alloc HO1.out _) mkB oneB (some ⟨w2.heap.size, 0, none⟩) 3 3 [7, 7, 7] rfl (in_three w2) (by unfold maxLen; omega) (by omega) (by simp; omega) ?_)
  intro v3 w3 hown3 hgrow3
  have hb3 := below_rowI hb2 hz2 _ HO1.out hgrow3
  have hz3 := hb3.size
  have hn3 : n + 3 = (l ++ [7, 7, 7]).length := by rw [List.length_append, ← HLN.out]; rfl
  have ho3 : w3.ownsRow w.heap.size 5 1 v3 (n + 3) ((l ++ [7, 7, 7]).map mkB) := by rw [List.map_append]; exact hown3
  obtain ⟨p3, c3, rfl, hn3', h0 | ⟨b3, o3, rfl, hc3, hb3', hat3⟩⟩ := in_of_row ho3 hn3
  · omega
  have HAT := Lib.hid hat3
  have HIN3 : Hid (In mkB w3 (some ⟨b3, o3, none⟩) n c3 l) := Lib.hid ⟨HLN.out, .inr ⟨b3, o3, rfl, by omega, hb3', fun i hi => by
    have := HAT.out i (by simp; omega)
    rw [List.getElem_append_left hi] at this
    exact this⟩⟩
  have H7 : Hid (w3.cell? ⟨b3, o3 + n, none⟩ = some (.int .u8 7)) := Lib.hid (by
    have := HAT.out n (by simp; have := HLN.out; omega)
    rw [List.getElem_append_right (by have := HLN.out; omega)] at this
    show _ = some (mkB 7)
    simpa [← HLN.out] using this)
  clear hat3 hn3 hn3' ho3 hown3 hgrow3 HO1
  go_wp2_with fail
  refine (put_any x _ n c3 l w3 hx HIN3.out (by omega)).mono ?_
  rintro e w4 ⟨v4, rfl, hown4, hb4⟩
  have hz4 := hb4.size
  obtain ⟨LU, hLU⟩ : ∃ LU, LU = l ++ Lib.uvarint x := ⟨_, rfl⟩
  rw [← hLU] at hown4
  have HLU := Lib.hid hLU
  clear hLU
  obtain ⟨p4, c4, rfl, hin4⟩ := in_of_row hown4 rfl
  have HIN4 := Lib.hid hin4
  have HB4 := Lib.hid (hb3.trans (hb4.mono hz3))
  have H74 := Lib.hid ((hb4.cell (p := ⟨b3, o3 + n, none⟩) hb3').trans H7.out)
  have HL4 := Lib.hid (HL.out.step HB4.out)
  clear hown4 hin4 hb2 hb3 hb4 H7
  go_wp2_with (at_builtin; refine wpList_append_in _ rfl (.tmp 36) (.tmp 37) 32 rfl w4.heap.size 5 i0 (.int .u8 0) 1 Try.underlying32 hi0 hy0 hy1 hy2 rfl _ 0 [] rfl (World.ownsRow_made w4 #[] 0 (Nat.le_refl _) (Nat.zero_le _) rfl) mkB oneB p n c l rfl (HL4.out.step ((Below.refl _ _).alloc (Nat.le_refl _) _)) (by unfold maxLen; omega) (by omega) (by simp) ?_)
  intro v5 w5 hown5 hgrow5
  have hb5 := below_made _ hgrow5
  have hz5 := hb5.size
  have HO5 : Hid (w5.ownsRow w4.heap.size 5 1 v5 n (l.map mkB)) := Lib.hid (by simpa using hown5)
  clear hown5 hgrow5
  go_wp2_with fail
  refine (refBytes_any x w5 hx).mono ?_
  rintro e w6 ⟨v6, rfl, hown6, hb6⟩
  have hz6 := hb6.size
  obtain ⟨p6, c6, rfl, hin6⟩ := in_of_row hown6 rfl
  have HIN6 := Lib.hid hin6
  have HO6 := Lib.hid (row_step HO5.out hb6)
  have hu := Lib.uvarint_length64 hx
  have hb46 : Below w4.heap.size w4 w6 := hb5.trans (hb6.mono hz5)
  clear hown6 hin6 HO5
  go_wp2_with (at_builtin; refine wpList_append_in _ rfl (.tmp 38) (.tmp 40) 32 rfl w4.heap.size 5 i0 (.int .u8 0) 1 Try.underlying32 hi0 hy0 hy1 hy2 rfl _ n (l.map mkB) rfl HO6.out mkB oneB p6 _ c6 _ rfl HIN6.out (by unfold maxLen; omega) (by omega) (by omega) ?_)
  intro v7 w7 hown7 hgrow7
  have hb47 : Below w4.heap.size w4 w7 := hb46.grown hgrow7 (by omega) (fun k hk => (World.ownsRow.lt HO6.out k hk).1)
  have hz7 := hb47.size
  have hlen : n + (Lib.uvarint x).length = LU.length := by rw [HLU.out, List.length_append, ← HLN.out]
  have ho7 : w7.ownsRow w4.heap.size 5 1 v7 (n + (Lib.uvarint x).length) (LU.map mkB) := by rw [HLU.out, List.map_append]; exact hown7
  obtain ⟨p7, c7, rfl, hin7⟩ := in_of_row ho7 hlen
  have HIN7 := Lib.hid hin7
  have HIN47 := Lib.hid (HIN4.out.step hb47)
  have H77 := (hb47.cell (p := ⟨b3, o3 + n, none⟩) (by show b3 < _; omega)).trans H74.out
  have HB7 := Lib.hid (HB4.out.trans (hb47.mono (by omega)))
  have HK7 := Lib.hid (HK.out.step HB7.out)
  clear hown7 hgrow7 ho7 hin7 hb46 hb47 hb5 hb6 HO6 hlen
  go_wp2_with fail
  refine (equal_any _ _ _ _ _ _ _ _ w7 HIN47.out HIN7.out).mono ?_
  rintro e w8 ⟨rfl, rfl⟩
  rw [decide_eq_true rfl]
  go_wp2_with fail
  refine (get_any q m d k w7 HK7.out (by omega)).mono ?_
  rintro e w8 ⟨rfl, rfl⟩
  go_wp2_with fail
  refine (refGet_any q m d k w7 HK7.out (by omega)).mono ?_
  rintro e w8 ⟨rfl, hb8⟩
  have hz8 := hb8.size
  go_wp2_with (first | (go_at_call 11; refine (no_any _ _).mono ?_; rintro e w9 ⟨rfl, rfl⟩) | (go_at_call 12; refine (alive_any _).mono ?_; rintro e w9 ⟨rfl, hb9⟩))
  go_ret
  exact ⟨rfl, (HB7.out.trans (hb8.mono (by omega))).trans (hb9.mono (by omega))⟩

theorem packNumbers_walk (x : Nat) (p : Option Addr) (n c : Nat) (l : List UInt8) (q : Option Addr) (m d : Nat) (k : List UInt8) (w : World) (hx : x < 18446744073709551616) (hn : n ≤ 9223372036854775807) (hl : In mkB w p n c l) (hm : m ≤ 9223372036854775807) (hk : In mkB w q m d k) :
    Calls Try.prog 4 #[.int .u64 x, .slice p n c, .slice q m d] w fun e w' => e = .returned (.bool true) ∧ Below w.heap.size w w' := by
  by_cases h : 100 < n ∨ 100 < m
  · exact packNumbers_long x p q n c m d w hn hm h
  · exact packNumbers_short x p q n c m d l k w hx hl hk (by omega) (by omega)
end Go.Proofs.Ytlfnefgcndhomaa
