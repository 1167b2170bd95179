/-
  Sets by what is in them.
-/
import Derived.Test.YtlfnefgcndhomaaBoth
import Derived.Test.YtlfnefgcndhomaaOnes
namespace Go.Proofs.Ytlfnefgcndhomaa
open Go.RowKit
set_option linter.unusedVariables false

theorem listW_congr {l m : List Nat} (N : Nat) (h : ∀ x, x < N → memW l x = memW m x) : listW l N = listW m N := by
  unfold listW
  rw [List.filter_congr (fun x hx => h x (List.mem_range.1 hx))]
theorem listW_stop (l : List Nat) (N : Nat) : ∀ k, (∀ x, N ≤ x → x < N + k → memW l x = false) → listW l (N + k) = listW l N
  | 0, _ => rfl
  | k + 1, h => by
    rw [← Nat.add_assoc, listW_succ, listW_stop l N k (fun x h1 h2 => h x h1 (by omega)), h (N + k) (by omega) (by omega)]
    simp
theorem allW_eq (l : List Nat) : allW l = listW l 65536 := by
  unfold allW
  have h1 : saidN l ≤ 1024 := by unfold saidN; omega
  have := listW_stop l (64 * saidN l) (65536 - 64 * saidN l) (fun x hx hx2 => by
    unfold memW
    have hlen : l.length ≤ x / 64 := by unfold saidN at *; omega
    rw [List.getD_eq_getElem?_getD, List.getElem?_eq_none hlen]
    simp)
  rw [show 64 * saidN l + (65536 - 64 * saidN l) = 65536 by omega] at this
  exact this.symm
theorem memW_join (l m : List Nat) (x : Nat) (hx : x < 65536) : memW (bothW joinF l m) x = (memW l x || memW m x) := by
  unfold memW
  rw [bothW_getD joinF l m _ (by simp [joinF]) (by omega)]
  unfold joinF
  rw [Nat.testBit_or]
theorem memW_rest (l m : List Nat) (x : Nat) (hx : x < 65536) (hm : W64 m) : memW (bothW restF l m) x = (memW l x && !memW m x) := by
  unfold memW
  rw [bothW_getD restF l m _ (by simp [restF]) (by omega)]
  unfold restF
  have h := getD_W64 hm (x / 64)
  generalize m.getD (x / 64) 0 = y at *
  rw [Nat.testBit_and, show 18446744073709551615 - y = 2 ^ 64 - (y + 1) by omega, Nat.testBit_two_pow_sub_succ (by omega)]
  simp [show x % 64 < 64 by omega]

/-- The numbers below 65536 that are in. -/
def lst (s : Nat → Bool) : List Int := ((List.range 65536).filter s).map Int.ofNat
theorem lst_of (l : List Nat) (s : Nat → Bool) (h : ∀ x, x < 65536 → memW l x = s x) : allW l = lst s := by
  rw [allW_eq]
  unfold listW lst
  rw [List.filter_congr (fun x hx => h x (List.mem_range.1 hx))]
theorem lst_length (s : Nat → Bool) : (lst s).length ≤ 65536 := by
  unfold lst
  rw [List.length_map]
  exact Nat.le_trans (List.length_filter_le _ _) (by simp)

/-- A slice value reads as words that have just these numbers. -/
def SetIs (w : World) (q : Option Addr) (n c : Nat) (s : Nat → Bool) : Prop := ∃ L, In mkW w q n c L ∧ W64 L ∧ n ≤ 1100 ∧ ∀ x, x < 65536 → memW L x = s x
theorem SetIs.step {w w1 : World} {q : Option Addr} {n c : Nat} {s : Nat → Bool} (h : SetIs w q n c s) (hb : Below w.heap.size w w1) : SetIs w1 q n c s := by
  obtain ⟨L, h1, h2, h3, h4⟩ := h
  exact ⟨L, h1.step hb, h2, h3, h4⟩
/-- A slice value reads as just these numbers, rising. -/
def LstIs (w : World) (q : Option Addr) (n c : Nat) (s : Nat → Bool) : Prop := In mkI w q n c (lst s) ∧ n ≤ 65536
theorem LstIs.step {w w1 : World} {q : Option Addr} {n c : Nat} {s : Nat → Bool} (h : LstIs w q n c s) (hb : Below w.heap.size w w1) : LstIs w1 q n c s := ⟨h.1.step hb, h.2⟩

theorem sOf (p : Option Addr) (n c : Nat) (l : List Int) (w : World) (h : In mkI w p n c l) (hl : n ≤ 1000) :
    Calls Try.prog 34 #[.slice p n c] w fun e w' => ∃ q m d, e = .returned (.slice q m d) ∧ SetIs w' q m d (fun x => decide ((x : Int) ∈ l)) ∧ Below w.heap.size w w' := by
  refine (of_any p n c l w h hl).mono ?_
  rintro e w' ⟨v', rfl, hown, hb⟩
  obtain ⟨q, d, rfl, hin⟩ := in_of_row hown rfl
  exact ⟨q, _, d, rfl, ⟨ofW l, hin, ofW_W64 l, by have := ofW_length l; omega, fun x hx => memW_ofW l x (by omega)⟩, hb⟩
theorem sJoin (p q : Option Addr) (n c m d : Nat) (s t : Nat → Bool) (w : World) (h1 : SetIs w p n c s) (h2 : SetIs w q m d t) :
    Calls Try.prog 36 #[.slice p n c, .slice q m d] w fun e w' => ∃ q' m' d', e = .returned (.slice q' m' d') ∧ SetIs w' q' m' d' (fun x => s x || t x) ∧ Below w.heap.size w w' := by
  obtain ⟨L, a1, a2, a3, a4⟩ := h1
  obtain ⟨M, b1, b2, b3, b4⟩ := h2
  refine (setJoin_any p q n c m d L M w a1 b1 (by omega) (by omega) a2 b2).mono ?_
  rintro e w' ⟨v', rfl, hown, hb⟩
  obtain ⟨q', d', rfl, hin⟩ := in_of_row hown rfl
  exact ⟨q', _, d', rfl, ⟨_, hin, bothW_W64 joinF L M joinF_lt a2 b2, by have := bothW_length joinF L M; omega, fun x hx => by rw [memW_join L M x hx, a4 x hx, b4 x hx]⟩, hb⟩
theorem sRest (p q : Option Addr) (n c m d : Nat) (s t : Nat → Bool) (w : World) (h1 : SetIs w p n c s) (h2 : SetIs w q m d t) :
    Calls Try.prog 32 #[.slice p n c, .slice q m d] w fun e w' => ∃ q' m' d', e = .returned (.slice q' m' d') ∧ SetIs w' q' m' d' (fun x => s x && !t x) ∧ Below w.heap.size w w' := by
  obtain ⟨L, a1, a2, a3, a4⟩ := h1
  obtain ⟨M, b1, b2, b3, b4⟩ := h2
  refine (setRest_any p q n c m d L M w a1 b1 (by omega) (by omega) a2 b2).mono ?_
  rintro e w' ⟨v', rfl, hown, hb⟩
  obtain ⟨q', d', rfl, hin⟩ := in_of_row hown rfl
  exact ⟨q', _, d', rfl, ⟨_, hin, bothW_W64 restF L M restF_lt a2 b2, by have := bothW_length restF L M; omega, fun x hx => by rw [memW_rest L M x hx b2, a4 x hx, b4 x hx]⟩, hb⟩
theorem sList (p : Option Addr) (n c : Nat) (s : Nat → Bool) (w : World) (h1 : SetIs w p n c s) :
    Calls Try.prog 29 #[.slice p n c] w fun e w' => ∃ q' m' d', e = .returned (.slice q' m' d') ∧ LstIs w' q' m' d' s ∧ Below w.heap.size w w' := by
  obtain ⟨L, a1, a2, a3, a4⟩ := h1
  refine (list_any p n c L w a1 (by omega) a2).mono ?_
  rintro e w' ⟨v', rfl, hown, hb⟩
  rw [lst_of L s a4] at hown
  obtain ⟨q', d', rfl, hin⟩ := in_of_row hown rfl
  exact ⟨q', _, d', rfl, ⟨hin, lst_length s⟩, hb⟩
theorem sInts (p q : Option Addr) (n c m d : Nat) (s t : Nat → Bool) (w : World) (h1 : LstIs w p n c s) (h2 : LstIs w q m d t) (hst : ∀ x, s x = t x) :
    Calls Try.prog 24 #[.slice p n c, .slice q m d] w fun e w' => e = .returned (.bool true) ∧ Below w.heap.size w w' := by
  obtain rfl : s = t := funext hst
  refine (ints_any p q n m c d (lst s) (lst s) w h1.1 h2.1 (by have := h1.2; omega)).mono ?_
  rintro e w' ⟨rfl, hb⟩
  exact ⟨ret_bool (decide_eq_true rfl), hb⟩

/-- How many members up to a word. -/
def cntW (l : List Nat) (k : Nat) : Nat := (listW l (64 * k)).length
theorem cnt_bits (l : List Nat) (k : Nat) : ∀ j, j ≤ 64 → (listW l (64 * k + j)).length = cntW l k + popB j (l.getD k 0)
  | 0, _ => by simp [cntW, popB]
  | j + 1, h => by
    rw [← Nat.add_assoc, listW_succ, List.length_append, cnt_bits l k j (by omega), popB_top]
    have hm : memW l (64 * k + j) = decide (l.getD k 0 / 2 ^ j % 2 = 1) := by
      unfold memW
      rw [show (64 * k + j) / 64 = k by omega, show (64 * k + j) % 64 = j by omega, testBit_div]
    rw [hm]
    generalize l.getD k 0 = y at *
    by_cases hb : y / 2 ^ j % 2 = 1
    · simp [hb]; omega
    · have : y / 2 ^ j % 2 = 0 := by omega
      simp [this]
theorem cntW_succ (l : List Nat) (k : Nat) : cntW l (k + 1) = cntW l k + popB 64 (l.getD k 0) := by
  rw [← cnt_bits l k 64 (Nat.le_refl _)]
  unfold cntW
  rw [show 64 * (k + 1) = 64 * k + 64 by omega]
theorem cntW_all (l : List Nat) : cntW l (saidN l) = (allW l).length := rfl

set_option maxHeartbeats 1000000 in
theorem len_some (l : List Nat) (b off c n : Nat) (w : World) (hat : At mkW w b off l) (hb : b < w.heap.size) (hc : n ≤ c) (hl : n ≤ 2000) (hn : l.length = n) (hW : W64 l) :
    Calls Try.prog 30 #[.slice (some ⟨b, off, none⟩) n c] w fun e w' => e = .returned (.int .i64 ((allW l).length : Nat)) ∧ w = w' := by
  obtain ⟨m, hm⟩ : ∃ m, min n 1024 = m := ⟨_, rfl⟩
  have hmn : m ≤ n := by omega
  have hm1 : m ≤ 1024 := by omega
  have HALL : Hid ((allW l).length = cntW l m) := Lib.hid (by rw [← cntW_all]; unfold saidN; rw [hn, hm])
  have HSAID := fun w => said_any (some ⟨b, off, none⟩) n c m w hl hc hm
  have H := Lib.hid hat
  have HN := Lib.hid hn
  have HWW := Lib.hid hW
  have H0 : Hid (cntW l 0 = 0) := Lib.hid rfl
  clear hat hn hW hm
  go_enter Try.func30, Try.ntmps30
  go_wp2_with (go_at_call 41; refine (HSAID _).mono ?_; rintro e w' ⟨rfl, rfl⟩)
  clear HSAID
  go_loop [3, 9] (fun v i => ∃ k : Nat, k ≤ m ∧ i = .int .i64 k ∧ v = .int .i64 (cntW l k : Nat)) (fun _ i => m - (intOf i).toNat)
  case atStart => exact ⟨0, by omega, rfl, by rw [H0.out]; rfl⟩
  case round =>
    obtain ⟨k, hk, rfl, rfl⟩ := hrel
    have hle : cntW l k ≤ 65536 := Nat.le_trans (listW_length l (64 * k)) (by omega)
    by_cases hlt : k < m
    · have hkl : Hid (k < l.length) := Lib.hid (by rw [HN.out]; omega)
      have e0 : w.cell? ⟨b, off + k, none⟩ = some (.int .u64 (l[k]'(hkl.out) : Nat)) := H.out k hkl.out
      have hx : l[k]'(hkl.out) < 18446744073709551616 := HWW.out _ (List.getElem_mem _)
      have HS : Hid (cntW l (k + 1) = cntW l k + popB 64 (l[k]'(hkl.out))) := Lib.hid (by
        rw [cntW_succ, List.getD_eq_getElem?_getD, List.getElem?_eq_getElem hkl.out]; rfl)
      generalize l[k]'(hkl.out) = x at *
      have hp := popB_le 64 x
      generalize cntW l k = K at *
      have HO := ones_any x w hx
      generalize popB 64 x = P at *
      go_wp2_with fail
      refine HO.mono ?_
      rintro e w1 ⟨rfl, rfl⟩
      go_wp2_with fail
      go_round
      case rel => exact ⟨k + 1, by omega, by go_num, by rw [HS.out]; go_num⟩
      case measure => simp [intOf]; omega
    · have hkk : Hid (cntW l k = (allW l).length) := Lib.hid (by rw [HALL.out, show k = m by omega])
      go_wp2_with fail
      go_ret
      exact ⟨ret_int (by rw [hkk.out]), rfl⟩
theorem len_none (p : Option Addr) (c : Nat) (w : World) :
    Calls Try.prog 30 #[.slice p 0 c] w fun e w' => e = .returned (.int .i64 ((allW []).length : Nat)) ∧ w = w' := by
  have H0 : Hid ((allW []).length = 0) := Lib.hid rfl
  go_enter Try.func30, Try.ntmps30
  go_wp2_with (go_at_call 41; refine (said_any p 0 c 0 _ (by omega) (by omega) (by omega)).mono ?_; rintro e w' ⟨rfl, rfl⟩)
  refine wp_loop_rounds 1 ?_
  rw [rounds_succ]
  go_wp2
  go_ret
  exact ⟨ret_int (by rw [H0.out]; rfl), rfl⟩
theorem sLen (p : Option Addr) (n c : Nat) (s : Nat → Bool) (w : World) (h1 : SetIs w p n c s) :
    Calls Try.prog 30 #[.slice p n c] w fun e w' => e = .returned (.int .i64 ((lst s).length : Nat)) ∧ w = w' := by
  obtain ⟨L, a1, a2, a3, a4⟩ := h1
  rw [← lst_of L s a4]
  obtain ⟨hn, h0 | ⟨b, off, rfl, hc, hb, hat⟩⟩ := a1
  · subst h0
    have : L = [] := List.length_eq_zero_iff.1 hn.symm
    subst this
    exact len_none p c w
  · exact len_some L b off c n w hat hb hc (by omega) hn.symm a2
end Go.Proofs.Ytlfnefgcndhomaa
