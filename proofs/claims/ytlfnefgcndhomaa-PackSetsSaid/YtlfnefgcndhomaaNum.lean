/-
  A number's bytes, put behind a row of the call's own (appendNumber, Put, the document's Bytes).
-/
import Derived.Test.YtlfnefgcndhomaaZig
import Derived.Lib.Varint
namespace Go.Proofs.Ytlfnefgcndhomaa
open Go.RowKit
set_option linter.unusedVariables false

theorem info5 : (Try.prog.info? 5).map (fun i => (i.zero, i.size, i.bytes)) = some (some (.int .u8 0), 1, 1) := by kernel_rfl
theorem info3 : (Try.prog.info? 3).map (fun i => (i.zero, i.size, i.bytes)) = some (some (.int .i64 0), 1, 8) := by kernel_rfl
theorem info23 : (Try.prog.info? 23).map (fun i => (i.zero, i.size, i.bytes)) = some (some (.int .u64 0), 1, 8) := by kernel_rfl

/-- A slice of the call's own that reads as these bytes. -/
def OwnB (w : World) (base : Nat) (v : Value) (l : List UInt8) : Prop := w.ownsRow base 5 1 v l.length (l.map mkB)

/-- What a round of appendNumber's loop knows. -/
structure Putting (l : List UInt8) (x y : Nat) (d : List UInt8) : Prop where
  le : y ≤ x
  long : d.length ≤ 10
  small : y < 128 ^ (10 - d.length)
  all : l ++ d ++ Lib.uvarint y = l ++ Lib.uvarint x
theorem Putting.start {l : List UInt8} {x : Nat} (hx : x < 18446744073709551616) : Putting l x x [] := ⟨Nat.le_refl _, by simp, by simp; omega, by simp⟩
theorem Putting.next {l : List UInt8} {x y : Nat} {d : List UInt8} (h : Putting l x y d) (hy : 128 ≤ y) : Putting l x (y / 128) (d ++ [(y % 128 + 128).toUInt8]) := by
  have h2 := h.small
  have hlt : d.length < 10 := by
    rcases Nat.lt_or_ge d.length 10 with h1 | h1
    · exact h1
    · rw [show 10 - d.length = 0 by omega] at h2; omega
  refine ⟨by have := h.le; omega, by simp; omega, ?_, ?_⟩
  · rw [show 10 - d.length = (10 - (d ++ [(y % 128 + 128).toUInt8]).length) + 1 by simp; omega, Nat.pow_succ] at h2
    omega
  · rw [← h.all, Lib.uvarint_big hy]; simp

theorem byte_more (y : Nat) : bits .or .u8 ((y : Int) % 256) 128 = (((y % 128 + 128).toUInt8.toNat : Nat) : Int) := by
  rw [Lib.u8_or128_any _ (by omega) (by omega)]
  have : (y % 128 + 128).toUInt8.toNat = y % 128 + 128 := by
    show (y % 128 + 128) % 256 = _; omega
  rw [this]; omega
theorem byte_last (y : Nat) (h : y < 128) : ((y.toUInt8.toNat : Nat) : Int) = (y : Int) := by
  show ((y % 256 : Nat) : Int) = _; omega
theorem one_new (w : World) (v : Value) (T : TypeId) : ∀ j u, [v][j]? = some u → (w.alloc (.cells #[v] T)).cell? ((⟨w.heap.size, 0, none⟩ : Addr).add j) = some u := by
  intro j u h
  match j, h with
  | 0, h => simp at h; subst h; simp [Addr.add, go_sem]
  | j + 1, h => simp at h
theorem one_cell (k : IntKind) (x : Int) : ∀ u ∈ [Value.int k x], u.oneCell' = true := by
  intro u h; simp at h; subst h; rfl

theorem own_of {w : World} {base : Nat} {v : Value} {n : Nat} {xs : List Value} (h : w.ownsRow base 5 1 v n xs) (l : List UInt8) (hn : n = l.length) (hx : xs = l.map mkB) : OwnB w base v l := by
  subst hn hx; exact h
theorem below_row {base : Nat} {w wr w1 : World} {o : Obj} {E n : Nat} {v : Value} {xs : List Value} (hb : Below base w wr) (hz : w.heap.size ≤ wr.heap.size) (ho : wr.ownsRow base E 1 v n xs) (hg : (wr.alloc o).grownBy w1 v.ownBlock) (hbw : base ≤ w.heap.size) : Below base w w1 := by
  refine (hb.alloc (by omega) o).grown hg (by simp; omega) (fun k hk => (ho.lt k hk).1)

set_option maxRecDepth 10000 in
set_option maxHeartbeats 1000000 in
theorem append_any (x : Nat) (v : Value) (l : List UInt8) (w : World) (base : Nat) (hx : x < 18446744073709551616) (hv : OwnB w base v l) (hl : l.length ≤ 100000) (hb : base ≤ w.heap.size) :
    Calls Try.prog 39 #[v, .int .u64 x] w fun e w' => ∃ v', e = .returned v' ∧ OwnB w' base v' (l ++ Lib.uvarint x) ∧ Below base w w' := by
  obtain ⟨i0, hi0, hy0, hy1, hy2⟩ := info_parts info5
  have HV := Lib.hid hv
  have HX := Lib.hid (Putting.start (l := l) hx)
  clear hv
  go_enter Try.func39, Try.ntmps39
  go_wp2
  go_loopw [0, 1] (fun v n wr => ∃ (y : Nat) (d : List UInt8), n = .int .u64 y ∧ Putting l x y d ∧ OwnB wr base v (l ++ d) ∧ Below base w wr) (fun _ n _ => (intOf n).toNat)
  case atStart => exact ⟨x, [], rfl, HX.out, by simpa using HV.out, Below.refl _ _⟩
  case round =>
    obtain ⟨y, d, rfl, hp, hown, hbe⟩ := hrel
    have HP := Lib.hid hp
    have HO := Lib.hid hown
    have hd := hp.long
    have hyx := hp.le
    clear hp hown HX HV
    have hzb := hbe.size
    have hll : (l ++ d).length ≤ 100010 := by simp; omega
    by_cases h : 128 ≤ y
    · have hor : bits .or .u8 ((y : Int) % 256) 128 = (((y % 128 + 128).toUInt8.toNat : Nat) : Int) := byte_more y
      have HN := Lib.hid (HP.out.next h)
      generalize (y % 128 + 128).toUInt8 = c at *
      go_wp2_with (at_builtin; refine wpList_append_own _ rfl _ _ 32 rfl base 5 i0 (.int .u8 0) 1 1 Try.underlying32 hi0 hy0 hy1 hy2 rfl (by omega) _ _ _ rfl (World.ownsRow.alloc HO.out _) ⟨wr.heap.size, 0, none⟩ 1 1 [.int .u8 (c.toNat : Int)] rfl rfl (one_new _ _ _) (one_cell _ _) (by unfold maxLen; omega) (by omega) (by simp; omega) ?_)
      intro v' w1 hown hgrow _
      have HW := Lib.hid (own_of hown (l ++ d ++ [c]) (by simp; omega) (by simp))
      have HB := Lib.hid (below_row hbe hzb HO.out hgrow (by omega))
      clear hown hgrow
      go_wp2_with fail
      go_roundw
      case rel => exact ⟨y / 128, d ++ [c], by go_num, HN.out, by rw [← List.append_assoc]; exact HW.out, HB.out⟩
      case measure => simp [intOf]; omega
    · have HL := Lib.hid (byte_last y (by omega))
      have HU : Hid (l ++ Lib.uvarint x = l ++ d ++ [y.toUInt8]) := Lib.hid (by rw [← HP.out.all, Lib.uvarint_small (by omega)])
      go_wp2_with (at_builtin; refine wpList_append_own _ rfl _ _ 32 rfl base 5 i0 (.int .u8 0) 1 1 Try.underlying32 hi0 hy0 hy1 hy2 rfl (by omega) _ _ _ rfl (World.ownsRow.alloc HO.out _) ⟨wr.heap.size, 0, none⟩ 1 1 [.int .u8 (y : Int)] rfl rfl (one_new _ _ _) (one_cell _ _) (by unfold maxLen; omega) (by omega) (by simp; omega) ?_)
      intro v' w1 hown hgrow _
      have HW := Lib.hid (own_of hown (l ++ d ++ [y.toUInt8]) (by simp; omega) (by simp; omega))
      have HB := Lib.hid (below_row hbe hzb HO.out hgrow (by omega))
      clear hown hgrow
      go_wp2_with fail
      go_ret
      exact ⟨v', rfl, by rw [HU.out]; exact HW.out, HB.out⟩
end Go.Proofs.Ytlfnefgcndhomaa
