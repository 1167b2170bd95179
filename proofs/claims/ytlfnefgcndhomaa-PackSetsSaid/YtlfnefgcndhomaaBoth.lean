/-
  Join and Rest: word by word.
-/
import Derived.Test.YtlfnefgcndhomaaList
import Derived.OwnWalk
namespace Go.Proofs.Ytlfnefgcndhomaa
open Go.RowKit
set_option linter.unusedVariables false

def partW (f : Nat → Nat → Nat) (l m : List Nat) (N k : Nat) : List Nat := (List.range N).map fun i => bif decide (i < k) then f (l.getD i 0) (m.getD i 0) else 0
theorem partW_length (f : Nat → Nat → Nat) (l m : List Nat) (N k : Nat) : (partW f l m N k).length = N := by simp [partW]
theorem partW_zero (f : Nat → Nat → Nat) (l m : List Nat) (N : Nat) : partW f l m N 0 = List.replicate N 0 := by
  refine List.ext_getElem (by simp [partW]) fun i h1 h2 => ?_
  simp [partW]
theorem partW_next (f : Nat → Nat → Nat) (l m : List Nat) (N k : Nat) (h : k < N) : (partW f l m N k).set k (f (l.getD k 0) (m.getD k 0)) = partW f l m N (k + 1) := by
  refine List.ext_getElem (by simp [partW]) fun i h1 h2 => ?_
  rw [List.getElem_set]
  simp only [partW, List.getElem_map, List.getElem_range]
  by_cases hik : k = i
  · subst hik
    rw [if_pos rfl]
    simp
  · rw [if_neg hik]
    by_cases hlt : i < k
    · have : i < k + 1 := by omega
      simp [hlt, this]
    · have : ¬ i < k + 1 := by omega
      simp [hlt, this]
def bothN (l m : List Nat) : Nat := max (saidN l) (saidN m)
def bothW (f : Nat → Nat → Nat) (l m : List Nat) : List Nat := partW f l m (bothN l m) (bothN l m)
theorem bothW_getD (f : Nat → Nat → Nat) (l m : List Nat) (i : Nat) (hf : f 0 0 = 0) (hi : i < 1024) : (bothW f l m).getD i 0 = f (l.getD i 0) (m.getD i 0) := by
  unfold bothW
  rw [List.getD_eq_getElem?_getD]
  by_cases h : i < bothN l m
  · rw [List.getElem?_eq_getElem (by rw [partW_length]; exact h)]
    simp only [partW, List.getElem_map, List.getElem_range, Option.getD_some]
    simp [h]
  · rw [List.getElem?_eq_none (by rw [partW_length]; omega)]
    have h1 : l.length ≤ i := by unfold bothN saidN at h; omega
    have h2 : m.length ≤ i := by unfold bothN saidN at h; omega
    rw [List.getD_eq_getElem?_getD, List.getD_eq_getElem?_getD, List.getElem?_eq_none h1, List.getElem?_eq_none h2]
    simp [hf]
theorem bothW_length (f : Nat → Nat → Nat) (l m : List Nat) : (bothW f l m).length ≤ 1024 := by
  unfold bothW; rw [partW_length]; unfold bothN saidN; omega
theorem bothW_W64 (f : Nat → Nat → Nat) (l m : List Nat) (hf : ∀ a b, a < 18446744073709551616 → b < 18446744073709551616 → f a b < 18446744073709551616) (hl : W64 l) (hm : W64 m) : W64 (bothW f l m) := by
  intro x hx
  unfold bothW partW at hx
  obtain ⟨i, hi, rfl⟩ := List.mem_map.1 hx
  cases decide (i < bothN l m)
  · simp
  · simp only [cond_true]
    exact hf _ _ (getD_W64 hl i) (getD_W64 hm i)

def joinF (a b : Nat) : Nat := a ||| b
def restF (a b : Nat) : Nat := a &&& (18446744073709551615 - b)
theorem joinF_lt (a b : Nat) (ha : a < 18446744073709551616) (hb : b < 18446744073709551616) : joinF a b < 18446744073709551616 := or_W64 ha hb
theorem restF_lt (a b : Nat) (ha : a < 18446744073709551616) (hb : b < 18446744073709551616) : restF a b < 18446744073709551616 := Nat.lt_of_le_of_lt Nat.and_le_left ha
theorem join_any (a b : Nat) (w : World) (ha : a < 18446744073709551616) (hb : b < 18446744073709551616) : Calls Try.prog 50 #[.int .u64 a, .int .u64 b] w fun e w' => e = .returned (.int .u64 (joinF a b : Nat)) ∧ w = w' := by
  have H := Lib.hid (u64_or_nat a b ha hb)
  go_enter Try.func50, Try.ntmps50
  go_wp2
  go_ret
  exact ⟨ret_int H.out, rfl⟩
theorem rest_any (a b : Nat) (w : World) (ha : a < 18446744073709551616) (hb : b < 18446744073709551616) : Calls Try.prog 47 #[.int .u64 a, .int .u64 b] w fun e w' => e = .returned (.int .u64 (restF a b : Nat)) ∧ w = w' := by
  have H := Lib.hid (u64_andNot_nat a b ha hb)
  go_enter Try.func47, Try.ntmps47
  go_wp2
  go_ret
  exact ⟨ret_int H.out, rfl⟩

theorem range_zeros (N : Nat) : (madeCells #[Value.int .u64 0] N).toList = (List.replicate N 0).map mkW := by
  rw [toList_madeCells_one, List.map_replicate]; rfl

theorem In.cap {α : Type} {mk : α → Value} {w : World} {p : Option Addr} {n c : Nat} {l : List α} (h : In mk w p n c l) : n ≤ c := by
  rcases h.2 with h0 | ⟨b, off, _, hc, _⟩
  · omega
  · exact hc

set_option maxRecDepth 10000 in
set_option maxHeartbeats 2000000 in
theorem both_any (F : FuncId) (f : Nat → Nat → Nat) (p q : Option Addr) (n c m d : Nat) (l k : List Nat) (w : World) (hF : F = 47 ∨ F = 50)
    (HF : ∀ a b w, a < 18446744073709551616 → b < 18446744073709551616 → Calls Try.prog F #[.int .u64 (a : Nat), .int .u64 (b : Nat)] w fun e w' => e = .returned (.int .u64 (f a b : Nat)) ∧ w = w')
    (hf : ∀ a b, a < 18446744073709551616 → b < 18446744073709551616 → f a b < 18446744073709551616)
    (hl : In mkW w p n c l) (hk : In mkW w q m d k) (hn : n ≤ 2000) (hm : m ≤ 2000) (hlW : W64 l) (hkW : W64 k) :
    Calls Try.prog 46 #[.slice p n c, .slice q m d, .func (Fn.func F) #[] #[]] w fun e w' => ∃ v', e = .returned v' ∧ OwnW w' w.heap.size v' (bothW f l k) ∧ Below w.heap.size w w' := by
  obtain ⟨i0, hi0, hy0, hy1, hy2⟩ := info_parts info23
  have hnc : n ≤ c := hl.cap
  have hmd : m ≤ d := hk.cap
  obtain ⟨n1, hn1⟩ : ∃ n1, min n 1024 = n1 := ⟨_, rfl⟩
  obtain ⟨m1, hm1⟩ : ∃ m1, min m 1024 = m1 := ⟨_, rfl⟩
  have HS1 := fun w => said_any p n c n1 w hn hnc hn1
  have HS2 := fun w => said_any q m d m1 w hm hmd hm1
  have hn1b : n1 ≤ 1024 := by omega
  have hm1b : m1 ≤ 1024 := by omega
  have HNM : Hid (bothN l k = max n1 m1) := Lib.hid (by unfold bothN saidN; rw [← hl.1, ← hk.1, hn1, hm1])
  have HL := Lib.hid hl
  have HK := Lib.hid hk
  have HLW := Lib.hid hlW
  have HKW := Lib.hid hkW
  have HFF := Lib.hid hf
  clear hl hk hlW hkW hf hn1 hm1
  have hcase : ∃ N, bothN l k = N ∧ N ≤ 1024 ∧ ((m1 < n1 ∧ N = n1) ∨ (n1 < m1 ∧ N = m1) ∨ (n1 = m1 ∧ N = m1)) := ⟨max n1 m1, HNM.out, by omega, by omega⟩
  obtain ⟨N, hN, hN1, hcase⟩ := hcase
  have HN := Lib.hid hN
  have hb8 : i0.bytes * N ≤ 281474976710656 := by rw [hy2]; omega
  have HP0 := Lib.hid (partW_zero f l k N)
  have HPN := Lib.hid (fun j hj => partW_next f l k N j hj)
  have HPL := Lib.hid (fun j => partW_length f l k N j)
  have HFIN : Hid (bothW f l k = partW f l k N N) := Lib.hid (by unfold bothW; rw [hN])
  clear hN HNM
  rcases hF with rfl | rfl
  all_goals
    rcases hcase with ⟨hcmp, rfl⟩ | ⟨hcmp, rfl⟩ | ⟨rfl, rfl⟩
    all_goals
      go_enter Try.func46, Try.ntmps46
      go_wp2_with fail
      refine (HS1 _).mono ?_
      rintro e w1 ⟨rfl, rfl⟩
      go_wp2_with fail
      refine (HS2 _).mono ?_
      rintro e w1 ⟨rfl, rfl⟩
      go_wp2_with (refine wpList_make_full w rfl (.tmp 15) (.tmp 15) 55 rfl w.heap.size 23 i0 (.int .u64 0) 1 Try.underlying55 hi0 hy0 hy1 .i64 .i64 _ _ _ rfl rfl rfl rfl hb8 (by unfold maxLen; omega) (Nat.le_refl _) ?_)
      intro w2 hown2 hgrow2
      have HB2 := Lib.hid ((Below.refl w.heap.size w).grown hgrow2 (Nat.le_refl _) (fun k hk => by simp at hk))
      have HO2 : Hid (OwnW w2 w.heap.size (.slice (some ⟨w.heap.size, 0, none⟩) N N) (partW f l k N 0)) := Lib.hid (own_w hown2 _ (HPL.out 0).symm (by rw [HP0.out]; exact range_zeros N))
      clear hown2 hgrow2 HS1 HS2
      go_wp2_with fail
      go_loopw [19] (fun i wr => ∃ j : Nat, j ≤ N ∧ i = .int .i64 j ∧ OwnW wr w.heap.size (.slice (some ⟨w.heap.size, 0, none⟩) N N) (partW f l k N j) ∧ Below w.heap.size w wr) (fun i _ => N - (intOf i).toNat)
      case atStart => exact ⟨0, by omega, rfl, HO2.out, HB2.out⟩
      case round =>
        obtain ⟨j, hj, rfl, hown, hbe⟩ := hrel
        have HO := Lib.hid hown
        have HB := Lib.hid hbe
        have hz := hbe.size
        by_cases hlt : j < N
        · have HL2 := Lib.hid (HL.out.step hbe)
          have HK2 := Lib.hid (HK.out.step hbe)
          have hx := getD_W64 HLW.out j
          have hy := getD_W64 HKW.out j
          have HW1 := word_any p n c l j wr HL2.out hn (by omega)
          have HW2 := word_any q m d k j wr HK2.out hm (by omega)
          have HNX := Lib.hid (HPN.out j hlt)
          have hg : w.heap.size < wr.heap.size := by
            obtain ⟨g, h1, _, _, h2, _⟩ := OwnW.block HO.out (by rw [HPL.out]; omega)
            simp at h1; omega
          obtain ⟨e0, f0⟩ := OwnW.cell HO.out (HPL.out j).symm j (by rw [HPL.out]; exact hlt)
          have HST := Lib.hid (OwnW.set HO.out (HPL.out j).symm j (f (l.getD j 0) (k.getD j 0)))
          clear hown hbe HO2 HB2
          generalize l.getD j 0 = x at *
          generalize k.getD j 0 = y at *
          have HF1 := HF x y wr hx hy
          go_wp2_with fail
          refine HW1.mono ?_
          rintro e w4 ⟨rfl, rfl⟩
          go_wp2_with fail
          refine HW2.mono ?_
          rintro e w4 ⟨rfl, rfl⟩
          go_wp2_with fail
          refine HF1.mono ?_
          rintro e w4 ⟨rfl, rfl⟩
          go_wp2_with fail
          go_roundw
          case rel => exact ⟨j + 1, by omega, by go_num, by rw [← HNX.out]; exact HST.out.1, below_grown HB.out HST.out.2 hz (fun k hk => by simp at hk; omega)⟩
          case measure => simp [intOf]; omega
        · obtain rfl : j = N := by omega
          clear hown hbe
          go_wp2_with fail
          go_ret
          exact ⟨_, rfl, by rw [HFIN.out]; exact HO.out, HB.out⟩

/-- Join. -/
theorem setJoin_any (p q : Option Addr) (n c m d : Nat) (l k : List Nat) (w : World) (hl : In mkW w p n c l) (hk : In mkW w q m d k) (hn : n ≤ 2000) (hm : m ≤ 2000) (hlW : W64 l) (hkW : W64 k) :
    Calls Try.prog 36 #[.slice p n c, .slice q m d] w fun e w' => ∃ v', e = .returned v' ∧ OwnW w' w.heap.size v' (bothW joinF l k) ∧ Below w.heap.size w w' := by
  have HB := both_any 50 joinF p q n c m d l k w (.inr rfl) join_any joinF_lt hl hk hn hm hlW hkW
  clear hl hk hlW hkW
  go_enter Try.func36, Try.ntmps36
  go_wp2_with fail
  refine HB.mono ?_
  rintro e w1 ⟨v1, rfl, hown, hb⟩
  have HO := Lib.hid hown
  clear hown
  go_wp2_with fail
  go_ret
  exact ⟨v1, rfl, HO.out, hb⟩
/-- Rest. -/
theorem setRest_any (p q : Option Addr) (n c m d : Nat) (l k : List Nat) (w : World) (hl : In mkW w p n c l) (hk : In mkW w q m d k) (hn : n ≤ 2000) (hm : m ≤ 2000) (hlW : W64 l) (hkW : W64 k) :
    Calls Try.prog 32 #[.slice p n c, .slice q m d] w fun e w' => ∃ v', e = .returned v' ∧ OwnW w' w.heap.size v' (bothW restF l k) ∧ Below w.heap.size w w' := by
  have HB := both_any 47 restF p q n c m d l k w (.inl rfl) rest_any restF_lt hl hk hn hm hlW hkW
  clear hl hk hlW hkW
  go_enter Try.func32, Try.ntmps32
  go_wp2_with fail
  refine HB.mono ?_
  rintro e w1 ⟨v1, rfl, hown, hb⟩
  have HO := Lib.hid hown
  clear hown
  go_wp2_with fail
  go_ret
  exact ⟨v1, rfl, HO.out, hb⟩
end Go.Proofs.Ytlfnefgcndhomaa
