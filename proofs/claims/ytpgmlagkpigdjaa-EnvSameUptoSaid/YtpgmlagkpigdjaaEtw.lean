/-
  The law EnvTwice, walked.
-/
import Derived.Test.YtpgmlagkpigdjaaAlv
import Derived.Test.YtpgmlagkpigdjaaBn
namespace Go.Proofs.Ytpgmlagkpigdjaa
open Go.RowKit
set_option maxRecDepth 20000
set_option linter.unusedVariables false
set_option linter.unusedSimpArgs false

/-- What the law has found among the first k keys. -/
def TwSt (l : List Ky) (k : Nat) (at_ : Int) (is : Bool) : Prop := (is = false ∧ at_ = 0 ∧ Once l k) ∨ ∃ i : Nat, is = true ∧ at_ = i ∧ i < k ∧ (∃ key, l[i]? = some key ∧ key ∈ l.take i) ∧ Once l i
theorem tw_end {l : List Ky} {a : Int} {is : Bool} (h : TwSt l l.length a is) {o : Option Nat} (ho : TwAt l o) : a = ((o.getD 0 : Nat) : Int) ∧ is = o.isSome := by
  rcases h with ⟨rfl, rfl, h⟩ | ⟨i, rfl, rfl, hi, ⟨key, hk, hm⟩, h⟩
  · cases o with
    | none => exact ⟨rfl, rfl⟩
    | some j =>
      obtain ⟨hj, ⟨key, h1, h2⟩, _⟩ := ho
      exact absurd h2 (h j key hj h1)
  · cases o with
    | none => exact absurd hm (ho i key hi hk)
    | some j =>
      obtain ⟨hj, ⟨key2, h1, h2⟩, h3⟩ := ho
      have : i = j := by
        rcases Nat.lt_trichotomy i j with hc | hc | hc
        · exact absurd hm (h3 i key hc hk)
        · exact hc
        · exact absurd h2 (h j key2 hc h1)
      subst this
      exact ⟨rfl, rfl⟩
theorem eql31 (a b : Ky) (W : World) : (binOp .eql 31 (.agg #[.int .i64 a.1, .string a.2]) (.agg #[.int .i64 b.1, .string b.2])).run Try.prog W = .ok (.bool (decide (a = b))) W := by
  have := key31_eq a b W
  unfold keyV at this
  simp only [binOp]
  simp [this]
theorem neq31 (a b : Ky) (W : World) : (binOp .neq 31 (.agg #[.int .i64 a.1, .string a.2]) (.agg #[.int .i64 b.1, .string b.2])).run Try.prog W = .ok (.bool (!decide (a = b))) W := by
  have := key31_eq a b W
  unfold keyV at this
  simp only [binOp]
  simp [this]
set_option maxHeartbeats 8000000 in
theorem envTwice_any (p : Option Addr) (n c : Nat) (l : List Bn) (w : World) (hb : Bl w p n c l) (hnm : n ≤ maxLen) :
    Calls Try.prog 5 #[.slice p n c] w fun e w' => e = .returned (.bool true) ∧ Below w.heap.size w w' := by
  obtain ⟨i31, hi31, hy0, hy1, hy2⟩ : ∃ i31, Try.prog.info? 31 = some i31 ∧ i31.zero = some (.agg #[.int .i64 0, .string ByteArray.empty]) ∧ i31.size = 2 ∧ i31.bytes = 24 := by
    refine ⟨_, rfl, ?_, ?_, ?_⟩ <;> kernel_rfl
  have hn63 : n ≤ 9223372036854775807 := by unfold maxLen at hnm; omega
  have HAL : Hid (∀ W, Below w.heap.size w W → Calls Try.prog 7 #[] W fun e w' => e = .returned (.bool true) ∧ Below w.heap.size w w') := Lib.hid fun W hW => by
    refine (alive_any W).mono ?_
    rintro e w' ⟨h1, h2⟩
    exact ⟨h1, hW.trans (h2.mono hW.size)⟩
  by_cases hbig : 200 < n
  · clear hb hnm
    go_enter Try.func5, Try.ntmps5
    go_wp2_with (go_at_call 7; refine (HAL.out _ (Below.refl _ _)).mono ?_; rintro e w1 ⟨rfl, hb1⟩; have HB1 := Lib.hid hb1; clear hb1)
    go_ret
    exact ⟨rfl, HB1.out⟩
  · have HB := Lib.hid hb.1
    have HL : Hid (n = l.length) := Lib.hid hb.1.1
    have HKL : Hid ((l.map (·.h.k)).length = n) := Lib.hid (by simp [HL.out])
    clear hb hnm
    go_enter Try.func5, Try.ntmps5
    go_wp2_with fail
    go_loopw [3, 4, 5, 19] (fun v at_ is i wr => ∃ (k : Nat) (a : Int) (b : Bool), k ≤ n ∧ i = .int .i64 k ∧ at_ = .int .i64 a ∧ is = .bool b ∧ Hid (OwnK wr w.heap.size v ((l.map (·.h.k)).take k)) ∧ Hid (TwSt (l.map (·.h.k)) k a b) ∧ Hid (Below w.heap.size w wr)) (fun _ _ _ i _ => n - (intOf i).toNat)
    case atStart => exact ⟨0, 0, false, by omega, rfl, rfl, rfl, Lib.hid ⟨rfl, .inl ⟨rfl, rfl⟩⟩, Lib.hid (.inl ⟨rfl, rfl, fun j key hj => by omega⟩), Lib.hid (Below.refl _ _)⟩
    case round =>
      obtain ⟨k, a, b, hk, rfl, rfl, rfl, HO, HT, HBW⟩ := hrel
      by_cases hlt : k < n
      · obtain ⟨hn1, h0 | ⟨gb, ob, rfl, hcb, hgb, hat⟩⟩ := HB.out
        · omega
        obtain ⟨x, hx⟩ : ∃ x, l[k]? = some x := ⟨_, List.getElem?_eq_getElem (by omega)⟩
        obtain ⟨v0, v1, v2, v3, v4, v5⟩ := (hat k x hx).step hgb HBW.out
        have hgb2 : gb < wr.heap.size := Nat.lt_of_lt_of_le hgb HBW.out.size
        have r1 : (0 : Int) ≤ (k : Int) := by omega
        have r2 : (k : Int) < (n : Int) := by omega
        have HX := Lib.hid hx
        have HKX : Hid ((l.map (·.h.k))[k]? = some x.h.k) := Lib.hid (by simp [hx])
        generalize l.map (·.h.k) = K at *
        generalize hxh : x.h = h at *
        obtain ⟨q, m, ck, rfl, hks⟩ := HO.out.ks
        have hmk : m = k := by rw [hks.1, List.length_take]; have := HKL.out; omega
        subst hmk
        have HKS := Lib.hid hks
        have HW0 : Hid (∀ W0, W0 = (wr.alloc (.cells #[.int .i64 h.k.1, .string h.k.2, .int .i64 h.dc, .int .i64 h.via, .slice h.pp h.pn h.pc, .slice h.qp h.qn h.qc] 45)).alloc (.cells #[.int .i64 h.k.1, .string h.k.2] 31) → Below wr.heap.size wr W0 ∧ W0.heap[wr.heap.size + 1]? = some (.cells #[.int .i64 h.k.1, .string h.k.2] 31 (0, 0))) := Lib.hid (by
          rintro W0 rfl
          refine ⟨((Below.refl _ _).alloc (Nat.le_refl _) _).alloc (by simp) _, ?_⟩
          rw [show wr.heap.size + 1 = (wr.alloc (.cells #[.int .i64 h.k.1, .string h.k.2, .int .i64 h.dc, .int .i64 h.via, .slice h.pp h.pn h.pc, .slice h.qp h.qn h.qc] 45)).heap.size by simp]
          exact heap_new _ _)
        have hbz := HBW.out.size
        clear hat hx hn1 hks
        go_wp2_with fail
        obtain ⟨e1, e2⟩ := HW0.out _ rfl
        generalize (wr.alloc (.cells #[.int .i64 h.k.1, .string h.k.2, .int .i64 h.dc, .int .i64 h.via, .slice h.pp h.pn h.pc, .slice h.qp h.qn h.qc] 45)).alloc (.cells #[.int .i64 h.k.1, .string h.k.2] 31) = W0 at *
        have HO0 := Lib.hid (HO.out.step e1)
        have HKS0 := Lib.hid (HKS.out.step e1)
        have HB0 := Lib.hid (HBW.out.trans (e1.mono hbz))
        generalize wr.heap.size + 1 = kb at *
        have HKB := Lib.hid e2
        have hkb : kb < W0.heap.size := heap_lt e2
        clear e1 e2 HW0 HO HKS v0 v1 v2 v3 v4 v5 hbz
        go_loopw [4, 5, 31] (fun at_ is j wi => ∃ (j' : Nat) (a' : Int) (b' : Bool), j' ≤ m ∧ j = .int .i64 j' ∧ at_ = .int .i64 a' ∧ is = .bool b' ∧ Hid ((b = false ∧ hasK (K.take j') h.k = true ∧ a' = (m : Nat) ∧ b' = true) ∨ ((b = true ∨ hasK (K.take j') h.k = false) ∧ a' = a ∧ b' = b)) ∧ Hid (Below W0.heap.size W0 wi)) (fun _ _ j _ => m - (intOf j).toNat)
        case atStart => exact ⟨0, a, b, by omega, rfl, rfl, rfl, Lib.hid (.inr ⟨.inr (by simp [hasK]), rfl, rfl⟩), Lib.hid (Below.refl _ _)⟩
        case round =>
          obtain ⟨j', a', b', hj', rfl, rfl, rfl, HI, HBI⟩ := hrel
          by_cases hjl : j' < m
          · obtain ⟨hkn, h0 | ⟨gk, rfl, hck, hgk, hkat⟩⟩ := HKS0.out
            · omega
            obtain ⟨y, hy⟩ : ∃ y, (K.take m)[j']? = some y := ⟨_, List.getElem?_eq_getElem (by omega)⟩
            have hyK : K[j']? = some y := by rw [List.getElem?_take] at hy; simpa [hjl] using hy
            have HTK : Hid (hasK (K.take (j' + 1)) h.k = (hasK (K.take j') h.k || decide (y = h.k))) := Lib.hid (by rw [List.take_add_one, hyK]; simp [hasK])
            obtain ⟨u0, u1⟩ := (hkat j' y hy).step hgk HBI.out
            have hgk2 : gk < wr.heap.size := Nat.lt_of_lt_of_le hgk HBI.out.size
            have hkb2 : kb < wr.heap.size := Nat.lt_of_lt_of_le hkb HBI.out.size
            have hq : ∀ W, (binOp .eql 31 (.agg #[.int .i64 y.1, .string y.2]) (.agg #[.int .i64 h.k.1, .string h.k.2])).run Try.prog W = .ok (.bool (decide (y = h.k))) W := fun W => eql31 y h.k W
            have z0 : wr.cell? ⟨kb, 0, none⟩ = some (.int .i64 h.k.1) := (cellH (heap_step HKB.out HBI.out) 0).trans rfl
            have z1 : wr.cell? ⟨kb, 1, none⟩ = some (.string h.k.2) := (cellH (heap_step HKB.out HBI.out) 1).trans rfl
            have r3 : (0 : Int) ≤ (j' : Int) := by omega
            have r4 : (j' : Int) < (m : Int) := by omega
            have hbz := HBI.out.size
            have HNB := Lib.hid (HBI.out.alloc hbz (.cells #[.int .i64 y.1, .string y.2] 31))
            clear hkat hy hyK hkn
            simp only [at0]
            by_cases hyk : y = h.k
            · have hd : decide (y = h.k) = true := by simp [hyk]
              rw [hd] at hq HTK
              clear hyk hd
              cases b' with
              | true =>
                have HI2 := Lib.hid (show (b = false ∧ hasK (K.take (j' + 1)) h.k = true ∧ a' = (m : Nat) ∧ true = true) ∨ ((b = true ∨ hasK (K.take (j' + 1)) h.k = false) ∧ a' = a ∧ true = b) by
                  rcases HI.out with ⟨i1, i2, i3, _⟩ | ⟨i1, i2, i3⟩
                  · exact .inl ⟨i1, by rw [HTK.out]; simp, i3, rfl⟩
                  · exact .inr ⟨.inl i3.symm, i2, i3⟩)
                go_wp2_with fail
                go_roundw
                case rel => exact ⟨j' + 1, a', true, by omega, by go_num, rfl, rfl, HI2, HNB⟩
                case measure => simp [intOf]; omega
              | false =>
                have HI2 := Lib.hid (show (b = false ∧ hasK (K.take (j' + 1)) h.k = true ∧ ((m : Nat) : Int) = (m : Nat) ∧ true = true) ∨ ((b = true ∨ hasK (K.take (j' + 1)) h.k = false) ∧ ((m : Nat) : Int) = a ∧ true = b) by
                  rcases HI.out with ⟨i1, i2, i3, i4⟩ | ⟨i1, i2, i3⟩
                  · cases i4
                  · exact .inl ⟨i3.symm, by rw [HTK.out]; simp, rfl, rfl⟩)
                go_wp2_with fail
                go_roundw
                case rel => exact ⟨j' + 1, _, true, by omega, by go_num, rfl, rfl, HI2, HNB⟩
                case measure => simp [intOf]; omega
            · have hd : decide (y = h.k) = false := by simp [hyk]
              rw [hd] at hq HTK
              clear hyk hd
              have HI2 : Hid ((b = false ∧ hasK (K.take (j' + 1)) h.k = true ∧ a' = (m : Nat) ∧ b' = true) ∨ ((b = true ∨ hasK (K.take (j' + 1)) h.k = false) ∧ a' = a ∧ b' = b)) := Lib.hid (by rw [HTK.out, Bool.or_false]; exact HI.out)
              go_wp2_with fail
              go_roundw
              case rel => exact ⟨j' + 1, a', b', by omega, by go_num, rfl, rfl, HI2, HNB⟩
              case measure => simp [intOf]; omega
          · have hjm : j' = m := by omega
            have z0 : wr.cell? ⟨kb, 0, none⟩ = some (.int .i64 h.k.1) := (cellH (heap_step HKB.out HBI.out) 0).trans rfl
            have z1 : wr.cell? ⟨kb, 1, none⟩ = some (.string h.k.2) := (cellH (heap_step HKB.out HBI.out) 1).trans rfl
            have HTW : Hid (TwSt K (m + 1) a' b') := Lib.hid (by
              have hi := HI.out
              rw [hjm] at hi
              rcases hi with ⟨i1, i2, i3, i4⟩ | ⟨i1, i2, i3⟩
              · rcases HT.out with ⟨_, _, t3⟩ | ⟨i, t1, _⟩
                · exact .inr ⟨m, i4, i3, by omega, ⟨h.k, HKX.out, (hasK_iff _ _).1 i2⟩, t3⟩
                · rw [i1] at t1; cases t1
              · rw [i2, i3]
                rcases HT.out with ⟨t1, t2, t3⟩ | ⟨i, t1, t2, t3, t4, t5⟩
                · refine .inl ⟨t1, t2, once_next t3 HKX.out fun hm => ?_⟩
                  rcases i1 with i1 | i1
                  · rw [t1] at i1; cases i1
                  · rw [(hasK_iff _ _).2 hm] at i1; cases i1
                · exact .inr ⟨i, t1, t2, by omega, t4, t5⟩)
            have hrow := (HO0.out.step HBI.out)
            unfold OwnK at hrow
            have hbz2 : w.heap.size ≤ wr.heap.size := Nat.le_trans HB0.out.size HBI.out.size
            have hvl : (K.take m).length ≤ 200 := by rw [List.length_take]; omega
            have hbx : (kcells (K.take m)).length = (K.take m).length * 2 := kcells_length _
            have HBB := Lib.hid (HB0.out.trans (HBI.out.mono HB0.out.size))
            have HNW := Lib.hid (news2 wr h.k)
            have HTA : Hid (K.take (m + 1) = K.take m ++ [h.k]) := Lib.hid (by rw [List.take_add_one, HKX.out]; rfl)
            clear hjm HI
            go_wp2_with (first
              | (at_builtin; refine wpList_append_own _ rfl _ _ 28 rfl w.heap.size 31 i31 _ 2 24 Try.underlying28 hi31 hy0 hy1 hy2 rfl (by decide) _ _ _ rfl (World.ownsRow.alloc hrow _) ⟨_, 0, none⟩ 1 1 (kc h.k) rfl rfl HNW.out (one2 h.k) (by unfold maxLen; omega) (by omega) (by simp; omega) ?_; intro v' w3 hown' hg3 hnil3; have HO' := Lib.hid (ownk_snoc hown'); have HG3 := Lib.hid ((HBB.out.alloc hbz2 _).grown hg3 (by simp; omega) (fun j hj => (World.ownsRow.lt hrow j hj).1)); clear hown' hg3 hnil3)
              | go_in)
            go_roundw
            case rel => exact ⟨m + 1, a', b', by omega, by go_num, rfl, rfl, Lib.hid (by rw [HTA.out]; exact HO'.out), HTW, HG3⟩
            case measure => simp [intOf]; omega
      · have hkn : k = n := by omega
        obtain ⟨q, m, ck, rfl, hks⟩ := HO.out.ks
        have hmn : m ≤ 900000 := by rw [hks.1, List.length_take]; have := HKL.out; omega
        have HTW := Lib.hid (twice_any wr q m ck _ hks hmn)
        rw [hkn, ← HKL.out, List.take_length] at HTW
        have HTT : Hid (TwSt (l.map (·.h.k)) (l.map (·.h.k)).length a b) := Lib.hid (by rw [HKL.out, ← hkn]; exact HT.out)
        clear hks hkn HT HO
        go_wp2_with (first | (go_at_call 18; refine HTW.out.mono ?_; rintro e w2 ⟨o, ho, rfl, hb2⟩; obtain ⟨ea, eb⟩ := tw_end HTT.out ho; have HB2 := Lib.hid (HBW.out.trans (hb2.mono HBW.out.size)); clear hb2 ho; rw [← ea, ← eb]; clear ea eb) | (go_at_call 7; refine (HAL.out _ HB2.out).mono ?_; rintro e w3 ⟨rfl, hb3⟩; have HB3 := Lib.hid hb3; clear hb3))
        go_ret
        exact ⟨rfl, HB3.out⟩
end Go.Proofs.Ytpgmlagkpigdjaa
