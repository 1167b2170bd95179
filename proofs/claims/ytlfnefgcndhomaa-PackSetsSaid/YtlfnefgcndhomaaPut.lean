/-
  Put, and the document's Bytes.
-/
import Derived.Test.YtlfnefgcndhomaaNum
import Derived.Laws.MakeOwn
import Derived.Laws.CopyOwn
import Derived.OwnWalk
namespace Go.Proofs.Ytlfnefgcndhomaa
open Go.RowKit
set_option linter.unusedVariables false

/-- 'make([]T, n, c)', both variable: a new block of zeros. -/
theorem wpList_make_room {P : Program} (w : World) {ops : Array Oper} {rest : List Oper} {o : Oper} {a : Act} {Q : Exit → Act → World → Prop}
    (hg : o.guard = none) (l c : Operand) (t : TypeId) (hop : o.op = Op.makeSlice t l c)
    (e : TypeId) (i : TypeInfo) (k : IntKind) (x : Int) (h1 : P.underlying t = some (.slice e)) (h2 : P.info? e = some i) (h3 : i.zero = some (.int k x)) (h4 : i.size = 1)
    (kl kc : IntKind) (L C : Int) (n m : Nat) (hl : a.eval l = .int kl L) (hc : a.eval c = .int kc C) (hL : L = (n : Int)) (hC : C = (m : Int)) (hnm : n ≤ m) (b2 : i.bytes * m ≤ 281474976710656) (b3 : (m : Int) ≤ 9223372036854775807)
    (hK : wpList P ops Q rest (a.put o.dst (.slice (some ⟨w.heap.size, 0, none⟩) n m)) (w.alloc (.cells (List.replicate m (Value.int k x)).toArray e))) :
    wpList P ops Q (o :: rest) a w := by
  refine wpList_plain hg fun K hK' => ?_
  have hb : (i.bytes : Int) * (m : Int) ≤ 281474976710656 := by
    have h : ((i.bytes * m : Nat) : Int) ≤ 281474976710656 := by omega
    rwa [Int.natCast_mul] at h
  have hrun := run_make (P := P) w t e i (.int k x) h1 h2 h3 kl kc (n : Int) (m : Int) (by omega) (by omega) hb b3
  have hm : madeCells (Value.int k x).cells (m * 1) = (List.replicate m (Value.int k x)).toArray := by
    rw [← toList_madeCells_one (Value.int k x) m, Nat.mul_one]
    rfl
  rw [h4, Int.toNat_natCast, Int.toNat_natCast, hm] at hrun
  subst hL hC
  unfold Oper.wp
  simp [execOp, hop, hl, hc, hrun, Result.andThen]
  exact hK' _ _ hK

theorem size5 : (Try.prog.info? 5).map (·.size) = some 1 := by kernel_rfl
theorem news_of {α : Type} {mk : α → Value} {w : World} {b off : Nat} {l : List α} (h : At mk w b off l) : ∀ j u, (l.map mk)[j]? = some u → w.cell? ((⟨b, off, none⟩ : Addr).add j) = some u := by
  intro j u hj
  have ha : ((⟨b, off, none⟩ : Addr).add j) = ⟨b, off + j, none⟩ := by unfold Addr.add; split <;> simp_all
  rw [ha]
  rw [List.getElem?_map, Option.map_eq_some_iff] at hj
  obtain ⟨y, hy, rfl⟩ := hj
  obtain ⟨hi, rfl⟩ := List.getElem?_eq_some_iff.1 hy
  exact h j hi
theorem ones_of {α : Type} {mk : α → Value} (hmk : ∀ x, (mk x).oneCell' = true) (l : List α) : ∀ u ∈ l.map mk, u.oneCell' = true := by
  intro u h
  obtain ⟨x, _, rfl⟩ := List.mem_map.1 h
  exact hmk x
theorem own_made {w : World} {base g n m E : Nat} {cs : List Value} {z : Value} (hg : w.heap[g]? = some (.cells (splice (List.replicate m z) 0 cs).toArray E (0, 0))) (hn : cs.length = n) (hnm : n ≤ m) (hm : m ≤ maxLen) (hb : base ≤ g) :
    w.ownsRow base E 1 (.slice (some ⟨g, 0, none⟩) n m) n cs := by
  refine ⟨by omega, .inr ⟨g, m, _, rfl, hb, hg, hnm, hm, ?_, ?_⟩⟩
  · simp [splice]; omega
  · simp only [splice, List.take_zero, List.nil_append, Nat.zero_add, Nat.mul_one]
    exact List.take_left' hn

set_option maxRecDepth 10000 in
set_option maxHeartbeats 1000000 in
theorem put_any (x : Nat) (p : Option Addr) (n cap : Nat) (l : List UInt8) (w : World) (hx : x < 18446744073709551616) (h : In mkB w p n cap l) (hl : n ≤ 1000) :
    Calls Try.prog 14 #[.slice p n cap, .int .u64 x] w fun e w' => ∃ v', e = .returned v' ∧ OwnB w' w.heap.size v' (l ++ Lib.uvarint x) ∧ Below w.heap.size w w' := by
  obtain ⟨i0, hi0, hy0, hy1, hy2⟩ := info_parts info5
  have hn := h.1
  have hb5 : i0.bytes * (n + 10) ≤ 281474976710656 := by rw [hy2]; omega
  have hpos : ∀ W, Below w.heap.size w W → 0 < (l.map mkB).length → (some (⟨w.heap.size, 0, none⟩ : Addr)) = some ⟨w.heap.size, 0, none⟩ ∧ ∃ ad, p = some ad ∧ ∀ j v, (l.map mkB)[j]? = some v → W.cell? (ad.add j) = some v := by
    intro W hW hp
    refine ⟨rfl, ?_⟩
    rcases h.2 with h0 | ⟨b, off, hp', hc, hb, hat⟩
    · simp at hp; omega
    · exact ⟨_, hp', news_of (hat.step hb hW)⟩
  have HP := Lib.hid hpos
  have HN := Lib.hid hn
  clear hpos h hn
  have hmin : Hid ((l.map mkB).length = Nat.min n n) := Lib.hid (by simp [← HN.out])
  have hfit : Hid (0 + (l.map mkB).length ≤ (List.replicate (n + 10) (Value.int .u8 0)).length) := Lib.hid (by simp [← HN.out])
  go_enter Try.func14, Try.ntmps14
  go_wp2_with (first | (refine wpList_make_room w rfl _ _ 32 rfl 5 i0 .u8 0 Try.underlying32 hi0 hy0 hy1 .i64 .i64 _ _ n (n + 10) rfl rfl rfl (by omega) (by omega) hb5 (by omega) ?_) | (with_reducible refine wpList_copy_splice rfl _ _ 32 32 rfl 5 Try.underlying32 size5 (some ⟨w.heap.size, 0, none⟩) p n (n + 10) n cap rfl rfl w.heap.size 0 (List.replicate (n + 10) (Value.int .u8 0)) 5 (heap_alloc_new w _) (l.map mkB) hmin.out (HP.out _ ((Below.refl _ _).alloc (Nat.le_refl _) _)) hfit.out (ones_of (fun _ => rfl) _) w.heap.size w ((Below.refl _ _).alloc (Nat.le_refl _) _) (Nat.le_refl _) ?_))
  intro w1 hg1 hb1
  have hown : OwnB w1 w.heap.size (.slice (some ⟨w.heap.size, 0, none⟩) n (n + 10)) l := by
    have := own_made (n := n) hg1.out (by simp [← HN.out]) (by omega) (by unfold maxLen; omega) (Nat.le_refl w.heap.size)
    unfold OwnB
    rw [← HN.out]
    exact this
  have hll : Hid (l.length ≤ 100000) := Lib.hid (by rw [← HN.out]; omega)
  have HO := Lib.hid hown
  have hz1 := hb1.size
  clear hown hg1 HP hmin hfit
  go_wp2_with fail
  refine (append_any x _ l w1 w.heap.size hx HO.out hll.out hz1).mono ?_
  rintro e w2 ⟨v2, rfl, hown2, hb2⟩
  have HO2 := Lib.hid hown2
  clear hown2
  go_wp2_with fail
  go_ret
  exact ⟨v2, rfl, HO2.out, hb1.trans hb2⟩

/-- What a round of the document's Bytes knows. -/
structure Dividing (x y : Nat) (d : List UInt8) (k : Nat) : Prop where
  le : y ≤ x
  long : d.length = k
  few : k < 10
  small : y < 128 ^ (10 - k)
  all : d ++ Lib.uvarint y = Lib.uvarint x
theorem Dividing.start {x : Nat} (hx : x < 18446744073709551616) : Dividing x x [] 0 := ⟨Nat.le_refl _, rfl, by omega, by omega, rfl⟩
theorem Dividing.next {x y : Nat} {d : List UInt8} {k : Nat} (h : Dividing x y d k) (hy : ¬ y / 128 = 0) : Dividing x (y / 128) (d ++ [(y % 128 + 128).toUInt8]) (k + 1) := by
  have h2 := h.small
  have h3 := h.few
  have hlt : k + 1 < 10 := by
    rcases Nat.lt_or_ge (k + 1) 10 with h1 | h1
    · exact h1
    · rw [show 10 - k = 1 by omega] at h2; omega
  refine ⟨by have := h.le; omega, by simp [h.long], hlt, ?_, ?_⟩
  · rw [show 10 - k = (10 - (k + 1)) + 1 by omega, Nat.pow_succ] at h2
    omega
  · rw [← h.all, Lib.uvarint_big (x := y) (by omega)]; simp
theorem Dividing.last {x y : Nat} {d : List UInt8} {k : Nat} (h : Dividing x y d k) (hy : y / 128 = 0) : d ++ [(y % 128).toUInt8] = Lib.uvarint x := by
  rw [← h.all, Lib.uvarint_small (by omega), Nat.mod_eq_of_lt (by omega)]

set_option maxRecDepth 10000 in
set_option maxHeartbeats 1000000 in
theorem refBytes_any (x : Nat) (w : World) (hx : x < 18446744073709551616) :
    Calls Try.prog 16 #[.int .u64 x] w fun e w' => ∃ v', e = .returned v' ∧ OwnB w' w.heap.size v' (Lib.uvarint x) ∧ Below w.heap.size w w' := by
  obtain ⟨i0, hi0, hy0, hy1, hy2⟩ := info_parts info5
  have HX := Lib.hid (Dividing.start hx)
  have HV : Hid (OwnB w w.heap.size (.slice none 0 0) []) := Lib.hid (World.ownsRow_nil _ _ _ _)
  go_enter Try.func16, Try.ntmps16
  go_wp2
  go_loopw [0, 3, 4] (fun n v i wr => ∃ (y : Nat) (d : List UInt8) (k : Nat), n = .int .u64 y ∧ i = .int .i64 k ∧ Dividing x y d k ∧ OwnB wr w.heap.size v d ∧ Below w.heap.size w wr) (fun _ _ i _ => 10 - (intOf i).toNat)
  case atStart => exact ⟨x, [], 0, rfl, rfl, HX.out, HV.out, Below.refl _ _⟩
  case round =>
    obtain ⟨y, d, k, rfl, rfl, hp, hown, hbe⟩ := hrel
    have HP := Lib.hid hp
    have HO := Lib.hid hown
    have hk10 := hp.few
    have hyx := hp.le
    have hdl : d.length ≤ 10 := by have := hp.long; omega
    clear hp hown HX HV
    have hzb := hbe.size
    have hc1 : y % 128 < 128 := by omega
    by_cases h : y / 128 = 0
    · have hlast := Lib.hid (HP.out.last h)
      have hbl := Lib.hid (byte_last (y % 128) hc1)
      have hz : ((y : Int) / 128 == 0) = true := by rw [beq_iff_eq]; omega
      clear h
      go_wp2_with (at_builtin; refine wpList_append_own _ rfl _ _ 32 rfl w.heap.size 5 i0 (.int .u8 0) 1 1 Try.underlying32 hi0 hy0 hy1 hy2 rfl (by omega) _ _ _ rfl (World.ownsRow.alloc HO.out _) ⟨wr.heap.size, 0, none⟩ 1 1 [Value.int .u8 _] rfl rfl (one_new _ _ _) (one_cell _ _) (by unfold maxLen; omega) (by omega) (by simp; omega) ?_)
      intro v' w1 hown hgrow _
      have HW := Lib.hid (own_of hown (d ++ [(y % 128).toUInt8]) (by simp) (by have := hbl.out; simp; omega))
      have HB := Lib.hid (below_row hbe hzb HO.out hgrow (Nat.le_refl _))
      clear hown hgrow hz
      go_wp2_with fail
      go_ret
      exact ⟨v', rfl, by rw [← hlast.out]; exact HW.out, HB.out⟩
    · have HN := Lib.hid (HP.out.next h)
      have hz : ((y : Int) / 128 == 0) = false := by rw [beq_eq_false_iff_ne]; omega
      clear h
      go_wp2_with (at_builtin; refine wpList_append_own _ rfl _ _ 32 rfl w.heap.size 5 i0 (.int .u8 0) 1 1 Try.underlying32 hi0 hy0 hy1 hy2 rfl (by omega) _ _ _ rfl (World.ownsRow.alloc HO.out _) ⟨wr.heap.size, 0, none⟩ 1 1 [Value.int .u8 _] rfl rfl (one_new _ _ _) (one_cell _ _) (by unfold maxLen; omega) (by omega) (by simp; omega) ?_)
      intro v' w1 hown hgrow _
      have HW := Lib.hid (own_of hown (d ++ [(y % 128 + 128).toUInt8]) (by simp) (by simp; omega))
      have HB := Lib.hid (below_row hbe hzb HO.out hgrow (Nat.le_refl _))
      clear hown hgrow hz
      go_wp2_with fail
      go_roundw
      case rel => exact ⟨y / 128, d ++ [(y % 128 + 128).toUInt8], k + 1, by go_num, by go_num, HN.out, HW.out, HB.out⟩
      case measure => simp [intOf]; omega
end Go.Proofs.Ytlfnefgcndhomaa
