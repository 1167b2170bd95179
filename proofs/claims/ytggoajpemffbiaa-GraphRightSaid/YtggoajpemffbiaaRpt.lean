/-
  slices.Repeat of one number, walked.
-/
import Derived.Test.YtggoajpemffbiaaFam
import Derived.Laws.CopyOwn
import Derived.Laws.Bits64b
import Derived.Deep.LoopGhost
namespace Go.Proofs.Ytggoajpemffbiaa
open Go.RowKit
set_option maxRecDepth 20000
set_option linter.unusedVariables false
set_option linter.unusedSimpArgs false

theorem u64_nat (n : Nat) (h : n < 18446744073709551616) : IntKind.u64.wrap (n : Int) = (n : Int) := by
  exact IntWalk.u64_in _ (by omega)
theorem and_low (n : Nat) (h : n < 4294967296) : bits .and .u64 (n : Int) 4294967295 = (n : Int) := by
  have := bits_and_u64_nat n 4294967295 (by omega) (by omega)
  have e : n &&& 4294967295 = n := by
    have := Nat.and_two_pow_sub_one_eq_mod n 32
    rw [show (2 ^ 32 - 1 : Nat) = 4294967295 from rfl] at this
    rw [this]; omega
  rw [e] at this
  exact this
set_option maxHeartbeats 4000000 in
theorem mul64_any (n : Nat) (w : World) (hn : n ≤ 16777216) :
    Calls Try.prog 43 #[.int .u64 1, .int .u64 n] w fun e w' => e = .returned (.tuple #[.int .u64 0, .int .u64 n]) ∧ w = w' := by
  have a1 : bits .and .u64 1 4294967295 = 1 := and_low 1 (by omega)
  have a0 : bits .and .u64 0 4294967295 = 0 := and_low 0 (by omega)
  have a2 := and_low n (by omega)
  have d1 : (n : Int) / 4294967296 = 0 := by omega
  have w1 : IntKind.u64.wrap (n : Int) = (n : Int) := u64_nat n (by omega)
  go_enter Try.func43, Try.ntmps43
  go_wp2_with fail
  go_returns
  exact ⟨rfl, rfl⟩
set_option maxHeartbeats 4000000 in
theorem mul_any (n : Nat) (w : World) (hn : n ≤ 16777216) :
    Calls Try.prog 38 #[.int .u64 1, .int .u64 n] w fun e w' => e = .returned (.tuple #[.int .u64 0, .int .u64 n]) ∧ w = w' := by
  have H := Lib.hid (mul64_any n w hn)
  go_enter Try.func38, Try.ntmps38
  go_wp2_with (go_at_call 43; refine H.out.mono ?_; rintro e w1 ⟨rfl, rfl⟩)
  go_returns
  exact ⟨rfl, rfl⟩
/-- What is filled so far. -/
def fillV (n N : Nat) : List Value := List.replicate n (Value.int .i64 (-1)) ++ List.replicate (N - n) (Value.int .i64 0)
theorem fillV_len {n N : Nat} (h : n ≤ N) : (fillV n N).length = N := by unfold fillV; simp; omega
theorem fillV_get {n N j : Nat} {v : Value} (h : j < n) : (fillV n N)[j]? = some (.int .i64 (-1)) := by
  unfold fillV
  rw [List.getElem?_append_left (by simpa using h)]
  simp [h]
theorem fillV_more {n N k : Nat} (h : n + k ≤ N) : splice (fillV n N) n (List.replicate k (Value.int .i64 (-1))) = fillV (n + k) N := by
  unfold splice fillV
  have e1 : (List.replicate n (Value.int .i64 (-1)) ++ List.replicate (N - n) (Value.int .i64 0)).take n = List.replicate n (Value.int .i64 (-1)) := by
    rw [List.take_append_of_le_length (by simp)]; simp
  have e2 : (List.replicate n (Value.int .i64 (-1)) ++ List.replicate (N - n) (Value.int .i64 0)).drop (n + (List.replicate k (Value.int .i64 (-1))).length) = List.replicate (N - (n + k)) (Value.int .i64 0) := by
    rw [List.drop_append]
    simp
    omega
  rw [e1, e2, ← List.append_assoc, List.replicate_append_replicate]
theorem own_whole {w : World} {base g n : Nat} {xs : List Value} (h : w.ownsRow base 3 1 (.slice (some ⟨g, 0, none⟩) n n) n xs) : w.heap[g]? = some (.cells xs.toArray 3 (0, 0)) := by
  obtain ⟨hl, ⟨h0, _⟩ | ⟨g', c', cur, hv, hb, hh, hle, hm, hs, ht⟩⟩ := h
  · cases h0
  · simp only [Value.slice.injEq, Option.some.injEq, Addr.mk.injEq, and_true, true_and] at hv
    obtain ⟨rfl, rfl⟩ := hv
    have : cur.toList = xs := by
      rw [← ht, Nat.mul_one, List.take_of_length_le (by rw [Array.length_toList, hs]; omega)]
    rw [hh, ← this]
theorem own_of_whole {w : World} {base g n : Nat} {xs : List Int} (h : w.heap[g]? = some (.cells (xs.map (Value.int .i64)).toArray 3 (0, 0))) (hb : base ≤ g) (hl : xs.length = n) (hm : n ≤ maxLen) : OwnI w base (.slice (some ⟨g, 0, none⟩) n n) xs := by
  subst hl
  exact ⟨by simp, .inr ⟨g, xs.length, _, rfl, hb, h, Nat.le_refl _, hm, by simp, List.take_of_length_le (by simp)⟩⟩
theorem copy1_at {w : World} {gq oq k : Nat} (hk : k ≤ 1) (h : w.cell? ⟨gq, oq, none⟩ = some (.int .i64 (-1))) : ∀ j v, (List.replicate k (Value.int .i64 (-1)))[j]? = some v → w.cell? ((⟨gq, oq, none⟩ : Addr).add j) = some v := fun j v hj => by
  have hl := (List.getElem?_eq_some_iff.1 hj).1
  simp only [List.length_replicate] at hl
  obtain rfl : j = 0 := by omega
  have hv : v = .int .i64 (-1) := List.eq_of_mem_replicate (List.mem_of_getElem? hj)
  rw [hv, addr_add']; exact h
theorem rep_one (k : Nat) : ∀ v ∈ List.replicate k (Value.int .i64 (-1)), v.oneCell' = true := fun v hv => by rw [List.eq_of_mem_replicate hv]; rfl
theorem copy_run (w w0 : World) (B : Nat) (dp sp : Option Addr) (dLen dCap sLen sCap : Nat) (g off : Nat) (cur : List Value) (hg : w.heap[g]? = some (.cells cur.toArray 3 (0, 0))) (cs : List Value) (hn : cs.length = Nat.min sLen dLen)
    (hpos : 0 < cs.length → dp = some ⟨g, off, none⟩ ∧ ∃ ad, sp = some ad ∧ ∀ j v, cs[j]? = some v → w.cell? (ad.add j) = some v)
    (hfit : off + cs.length ≤ cur.length) (h1 : ∀ v ∈ cs, v.oneCell' = true) (hb : Below B w0 w) (hBg : B ≤ g) :
    ∃ w', (Builtin.copy_ #[22, 22] 3 #[.slice dp dLen dCap, .slice sp sLen sCap]).run Try.prog w = .ok (.int .i64 (cs.length : Nat)) w' ∧ w'.heap[g]? = some (.cells (splice cur off cs).toArray 3 (0, 0)) ∧ Below B w0 w' := by
  have hsz : (Try.prog.info? 3).map (·.size) = some 1 := by kernel_rfl
  by_cases h0 : cs.length = 0
  · obtain rfl : cs = [] := List.eq_nil_of_length_eq_zero h0
    have hrun := run_copy_none (P := Try.prog) w 22 22 3 3 dp sp dLen dCap sLen sCap Try.underlying22 hsz (by simpa using hn.symm)
    exact ⟨w, hrun, by simpa [splice] using hg, hb⟩
  · obtain ⟨rfl, ad, rfl, hsrc⟩ := hpos (by omega)
    have hrun := run_copy_row (P := Try.prog) w 22 22 3 3 g off dLen dCap ad sLen sCap cur.toArray 3 cs Try.underlying22 hsz hg hn hsrc (by simpa using hfit) h1
    exact ⟨_, hrun, by simpa [splice] using setRow_heap w g _ _ 3 _ hg, below_setRow hb hBg _⟩
set_option maxHeartbeats 8000000 in
theorem repeat_any (q : Option Addr) (N : Nat) (w : World) (hq : IS w q 1 1 [-1]) (hN : N ≤ 16777216) :
    Calls Try.prog 33 #[.slice q 1 1, .int .i64 N] w fun e w' => ∃ g, e = .returned (.slice (some ⟨g, 0, none⟩) N N) ∧ OwnI w' w.heap.size (.slice (some ⟨g, 0, none⟩) N N) (List.replicate N (-1)) ∧ Below w.heap.size w w' := by
  obtain ⟨i3, hi3, hz0, hz1, hz2⟩ := info_parts info3
  obtain ⟨hxx, h0 | ⟨gq, oq, rfl, hcq, hgq, hat⟩⟩ := hq
  · omega
  have c0 := hat 0 (-1) rfl
  rw [Nat.add_zero] at c0
  have HM := Lib.hid (mul_any N w hN)
  have HNN := Lib.hid hN
  obtain ⟨M, hM⟩ : ∃ M : Int, M = (N : Int) := ⟨_, rfl⟩
  have HMN := Lib.hid hM
  have HM' : Hid (∀ W : World, Calls Try.prog 38 #[.int .u64 1, .int .u64 M] W fun e w' => e = .returned (.tuple #[.int .u64 0, .int .u64 M]) ∧ W = w') := Lib.hid fun W => by rw [hM]; exact mul_any N W hN
  have n0 : ¬ M < 0 := by omega
  have w1 : IntKind.u64.wrap M = M := by rw [hM]; exact u64_nat N (by omega)
  have w2 : IntKind.i64.wrap M = M := IntWalk.i64_in _ (by omega)
  have n1 : ¬ (9223372036854775807 : Int) < M := by omega
  have n2 : decide ((9223372036854775807 : Int) < M) = false := decide_eq_false n1
  have n3 : decide (M < 0) = false := decide_eq_false n0
  rw [← hM]
  clear hat hcq HM hM hN hxx
  have hsz3 : (Try.prog.info? 3).map (·.size) = some 1 := by kernel_rfl
  obtain ⟨k1, hk1⟩ : ∃ k1, k1 = Nat.min 1 N := ⟨_, rfl⟩
  have hk1N : k1 ≤ N := by rw [hk1]; exact Nat.min_le_right _ _
  have hk11 : 0 < N → 0 < k1 := by rw [hk1]; intro h; show 0 < min 1 N; omega
  have HK1 := Lib.hid hk1
  have HK1' : Hid (k1 ≤ 1) := Lib.hid (by rw [hk1]; exact Nat.min_le_left _ _)
  clear hk1
  go_enter Try.func33, Try.ntmps33
  go_wp2_with (first
    | (go_at_call 38; refine (HM'.out _).mono ?_; rintro e w1 ⟨rfl, rfl⟩)
    | (at_make; refine wpList_make_full _ rfl _ _ 22 rfl w.heap.size 3 i3 (.int .i64 0) 1 Try.underlying22 hi3 hz0 hz1 .i64 .i64 _ _ N rfl rfl HMN.out HMN.out (by have := HNN.out; rw [hz2]; omega) (by have := HNN.out; unfold maxLen; omega) (Nat.le_refl _) ?_; intro w3 hown hgr; have HB3 := Lib.hid ((Below.refl w.heap.size w).grown hgr (Nat.le_refl _) (fun k hk => by simp at hk)); have HO3 : Hid (w3.heap[w.heap.size]? = some (.cells (fillV 0 N).toArray 3 (0, 0))) := Lib.hid (by have := own_whole hown; rw [this]; congr 2; show _ = (fillV 0 N).toArray; rw [show (madeCells (Value.int .i64 0).cells (N * 1)).toList = fillV 0 N from by (rw [Nat.mul_one]; show (madeCells #[Value.int .i64 0] N).toList = _; rw [toList_madeCells_one]; simp [fillV])]); have hc3 := (HB3.out.cell (p := ⟨gq, oq, none⟩) hgq).trans c0; clear hown hgr))
  obtain ⟨w4, hrun, hw4, hb4⟩ := copy_run w3 w w.heap.size (some ⟨w.heap.size, 0, none⟩) (some ⟨gq, oq, none⟩) N N 1 1 w.heap.size 0 (fillV 0 N) HO3.out (List.replicate k1 (Value.int .i64 (-1))) (List.length_replicate.trans HK1.out) (fun _ => ⟨rfl, ⟨gq, oq, none⟩, rfl, copy1_at HK1'.out hc3⟩) (by rw [fillV_len (Nat.zero_le _), List.length_replicate]; omega) (rep_one _) HB3.out (Nat.le_refl _)
  rw [List.length_replicate] at hrun
  rw [fillV_more (n := 0) (N := N) (k := k1) (by omega), Nat.zero_add] at hw4
  have HR4 := Lib.hid hw4
  have HB4 := Lib.hid hb4
  clear hw4 hb4
  rw [hrun]
  go_wp2_with fail
  clear hrun
  clear hc3 HO3 HB3
  obtain ⟨g, hg⟩ : ∃ g, g = w.heap.size := ⟨_, rfl⟩
  rw [← hg] at HR4 ⊢
  have HGE : Hid (w.heap.size ≤ g) := Lib.hid (by omega)
  clear hg
  go_loopw [8] (fun i wr => ∃ n : Nat, i = .int .i64 n ∧ n ≤ N ∧ Hid (0 < N → 0 < n) ∧ Hid (wr.heap[g]? = some (.cells (fillV n N).toArray 3 (0, 0))) ∧ Hid (Below w.heap.size w wr)) (fun i _ => N - (intOf i).toNat)
  case atStart => exact ⟨k1, rfl, hk1N, Lib.hid hk11, HR4, HB4⟩
  case round =>
    obtain ⟨n, rfl, hnN, HP, HR, HB⟩ := hrel
    clear HR4 HB4 hk11
    by_cases hlt : n < N
    · obtain ⟨k, hk⟩ : ∃ k, k = Nat.min n (N - n) := ⟨_, rfl⟩
      have hk0 : 0 < k := by rw [hk]; have := HP.out (by omega); show 0 < min n (N - n); omega
      have hkn : k ≤ n := by rw [hk]; exact Nat.min_le_left _ _
      have hkN : n + k ≤ N := by rw [hk]; have : min n (N - n) ≤ N - n := Nat.min_le_right _ _; show n + min n (N - n) ≤ N; omega
      have HKE := Lib.hid hk
      have s1 : IntKind.i64.wrap ((n : Int) + (k : Int)) = (n : Int) + (k : Int) := by
        rw [show (n : Int) + (k : Int) = ((n + k : Nat) : Int) by omega]; exact IntWalk.i64_in _ (by have := HNN.out; omega)
      have r1 : (0 : Int) ≤ (n : Int) := by omega
      have r2 : (n : Int) ≤ (N : Int) := by omega
      have hcell : ∀ j v, (List.replicate k (Value.int .i64 (-1)))[j]? = some v → wr.drew.cell? ((⟨g, 0, none⟩ : Addr).add j) = some v := fun j v hj => by
        have hl := (List.getElem?_eq_some_iff.1 hj).1
        simp only [List.length_replicate] at hl
        have hv : v = .int .i64 (-1) := List.eq_of_mem_replicate (List.mem_of_getElem? hj)
        rw [hv, addr_add']
        show wr.cell? _ = _
        rw [cellH HR.out, Nat.zero_add]
        simpa using fillV_get (N := N) (v := .int .i64 (-1)) (show j < n by omega)
      clear hk
      have hNn : ¬ N = n := by omega
      go_wp2_with fail
      go_region_law (refine step_copy_splice rfl (.tmp 41) (.tmp 44) 22 22 rfl 3 Try.underlying22 hsz3 (some ⟨g, n, none⟩) (some ⟨g, 0, none⟩) (N - n) (N - n) n N (by simp [Act.eval, Act.put, hNn]) (by simp [Act.eval, Act.put]) g n (fillV n N) 3 HR.out (List.replicate k (Value.int .i64 (-1))) (List.length_replicate.trans HKE.out) (fun _ => ⟨rfl, ⟨g, 0, none⟩, rfl, hcell⟩) (by rw [fillV_len hnN, List.length_replicate]; omega) (rep_one _) w.heap.size w HB.out.drew HGE.out ?_; intro w5 hw5 hb5; have HR5 : Hid (w5.heap[g]? = some (.cells (fillV (n + k) N).toArray 3 (0, 0))) := Lib.hid (by have := hw5.out; rw [fillV_more (n := n) (N := N) (k := k) hkN] at this; exact this); have HB5 := Lib.hid hb5; clear hw5 hb5)
      all_goals
        simp only [List.getElem_toArray, List.getElem_cons_succ, List.getElem_cons_zero, Act.put, List.setIfInBounds_toArray, List.set_cons_succ, List.set_cons_zero]
        go_wp2_with fail
        go_roundw
        case rel => exact ⟨n + k, by go_num, hkN, Lib.hid (fun _ => by omega), HR5, HB5⟩
        case measure => simp [intOf]; omega
    · have hnn : n = N := by omega
      have HF : Hid (OwnI wr w.heap.size (.slice (some ⟨g, 0, none⟩) N N) (List.replicate N (-1))) := Lib.hid (own_of_whole (by have := HR.out; rw [hnn] at this; rw [this]; simp [fillV]) HGE.out (by simp) (by have := HNN.out; unfold maxLen; omega))
      clear hnn
      go_wp2_with fail
      go_ret
      exact ⟨g, rfl, HF.out, HB.out⟩
end Go.Proofs.Ytggoajpemffbiaa
