/-
  A set's words: added, Of.
-/
import Derived.Test.YtlfnefgcndhomaaSetW
import Derived.Test.YtlfnefgcndhomaaZeros
import Derived.Test.YtlfnefgcndhomaaNum
import Derived.Deep.RegionWith
namespace Go.Proofs.Ytlfnefgcndhomaa
open Go.RowKit
set_option linter.unusedVariables false

theorem may_any (n : Int) (w : World) : Calls Try.prog 43 #[.int .i64 n] w fun e w' => e = .returned (.bool (mayB n)) ∧ w = w' := by
  go_enter Try.func43, Try.ntmps43
  go_wp2_with (go_at_call 38; refine (within_any n 65535 _).mono ?_; rintro e w' ⟨rfl, rfl⟩)
  go_ret
  exact ⟨rfl, rfl⟩
theorem bit_any (n : Nat) (w : World) (hn : n ≤ 65535) : Calls Try.prog 45 #[.int .i64 n] w fun e w' => e = .returned (.int .u64 ((2 ^ (n % 64) : Nat) : Int)) ∧ w = w' := by
  go_enter Try.func45, Try.ntmps45
  go_wp2
  go_ret
  refine ⟨ret_int ?_, rfl⟩
  have hb := bit_W64 n
  have h2 : ((2 : Int) ^ (n % 64)) = ((2 ^ (n % 64) : Nat) : Int) := by rw [Int.natCast_pow]; rfl
  rw [IntKind.wrap_u64, h2]
  generalize 2 ^ (n % 64) = y at *
  omega
theorem word_any (p : Option Addr) (n cap : Nat) (l : List Nat) (i : Nat) (w : World) (h : In mkW w p n cap l) (hn : n ≤ 2000) (hi : i ≤ 2000) :
    Calls Try.prog 44 #[.slice p n cap, .int .i64 i] w fun e w' => e = .returned (.int .u64 (l.getD i 0 : Nat)) ∧ w = w' := by
  by_cases hin : i < n
  · obtain ⟨hl, h0 | ⟨b, off, rfl, hc, hb, hat⟩⟩ := h
    · omega
    · have e0 := hat i (by omega)
      have hg : Hid (l.getD i 0 = l[i]'(by omega)) := Lib.hid (by rw [List.getD_eq_getElem?_getD, List.getElem?_eq_getElem (by omega)]; rfl)
      generalize l[i]'(by omega) = y at *
      clear hat hl
      go_enter Try.func44, Try.ntmps44
      go_wp2
      go_ret
      exact ⟨ret_int (by rw [hg.out]), rfl⟩
  · have hg : Hid (l.getD i 0 = 0) := Lib.hid (by rw [List.getD_eq_getElem?_getD, List.getElem?_eq_none (by have := h.1; omega)]; rfl)
    clear h
    go_enter Try.func44, Try.ntmps44
    go_wp2
    go_ret
    exact ⟨ret_int (by rw [hg.out]; rfl), rfl⟩
/-- A slice of the call's own that reads as these words. -/
def OwnW (w : World) (base : Nat) (v : Value) (l : List Nat) : Prop := w.ownsRow base 23 1 v l.length (l.map mkW)
theorem OwnW.slice {w : World} {base : Nat} {v : Value} {l : List Nat} (h : OwnW w base v l) : ∃ p c, v = .slice p l.length c := by
  rcases h.2 with ⟨rfl, h1⟩ | ⟨g, c, cur, rfl, hg, hh, hle, hm, hsz, ht⟩
  · exact ⟨none, 0, by rw [h1]⟩
  · exact ⟨_, c, rfl⟩
theorem OwnW.block {w : World} {base : Nat} {p : Option Addr} {n c : Nat} {l : List Nat} (h : OwnW w base (.slice p n c) l) (h0 : 0 < l.length) : ∃ g, p = some ⟨g, 0, none⟩ ∧ n = l.length ∧ base ≤ g ∧ g < w.heap.size ∧ n ≤ c := by
  rcases h.2 with ⟨h1, h2⟩ | ⟨g, c', cur, h1, hg, hh, hle, hm, hsz, ht⟩
  · omega
  · simp only [Value.slice.injEq] at h1
    obtain ⟨rfl, rfl, rfl⟩ := h1
    exact ⟨g, rfl, rfl, hg, (Array.getElem?_eq_some_iff.1 hh).1, hle⟩
theorem own_w {w : World} {base : Nat} {v : Value} {n : Nat} {xs : List Value} (h : w.ownsRow base 23 1 v n xs) (l : List Nat) (hn : n = l.length) (hx : xs = l.map mkW) : OwnW w base v l := by
  subst hn hx; exact h
theorem OwnW.set {w : World} {base g n c : Nat} {l : List Nat} (h : OwnW w base (.slice (some ⟨g, 0, none⟩) n c) l) (hn : n = l.length) (i x : Nat) : OwnW (w.setCell ⟨g, i, none⟩ (mkW x)) base (.slice (some ⟨g, 0, none⟩) n c) (l.set i x) ∧ w.grownBy (w.setCell ⟨g, i, none⟩ (mkW x)) (some g) := by
  subst hn
  have := World.ownsRow.stored h i (mkW x)
  refine ⟨?_, this.2⟩
  have h1 := this.1
  rw [← List.map_set] at h1
  unfold OwnW
  rw [List.length_set]
  exact h1
theorem OwnW.cell {w : World} {base g n c : Nat} {l : List Nat} (h : OwnW w base (.slice (some ⟨g, 0, none⟩) n c) l) (hn : n = l.length) (i : Nat) (hi : i < l.length) : w.cell? ⟨g, i, none⟩ = some (mkW (l.getD i 0)) ∧ w.frozen? ⟨g, i, none⟩ = false := by
  subst hn
  refine ⟨?_, World.ownsRow.frozenAt h i⟩
  rw [World.ownsRow.cellAt h i (by omega), List.getElem?_map, List.getD_eq_getElem?_getD, List.getElem?_eq_getElem hi]
  rfl

theorem grown_drew {w w1 : World} {r : Option Nat} (h : w.grownBy w1 r) : w.grownBy w1.drew r := ⟨h.os, h.tape, h.output, h.size, h.block⟩

theorem added_no (n : Int) (v : Value) (w : World) (hn : mayB n = false) :
    Calls Try.prog 49 #[v, .int .i64 n] w fun e w' => e = .returned v ∧ w = w' := by
  have HM : Calls Try.prog 43 #[.int .i64 n] w fun e w' => e = .returned (.bool false) ∧ w = w' := by
    refine (may_any n w).mono ?_
    rintro e w' ⟨rfl, rfl⟩
    exact ⟨ret_bool hn, rfl⟩
  clear hn
  go_enter Try.func49, Try.ntmps49
  go_wp2_with (go_at_call 43; refine HM.mono ?_; rintro e w' ⟨rfl, rfl⟩)
  go_ret
  exact ⟨rfl, rfl⟩

set_option maxHeartbeats 1000000 in
/-- The last statement of added: a bit put in. -/
theorem added_room (n : Nat) (p : Option Addr) (m c : Nat) (l : List Nat) (w : World) (base : Nat) (hn : n ≤ 65535) (hv : OwnW w base (.slice p m c) l) (hk : n / 64 < l.length) (hll : l.length ≤ 100000) (hW : W64 l) :
    Calls Try.prog 49 #[.slice p m c, .int .i64 n] w fun e w' => ∃ v', e = .returned v' ∧ OwnW w' base v' (addW l n) ∧ w.grownBy w' (Value.ownBlock (.slice p m c)) := by
  obtain ⟨g, rfl, rfl, hbg, hgw, hmc⟩ := OwnW.block hv (by omega)
  have hmay : mayB (n : Int) = true := by simp [mayB]; omega
  have HM : Calls Try.prog 43 #[.int .i64 n] w fun e w' => e = .returned (.bool true) ∧ w = w' := by
    refine (may_any n w).mono ?_
    rintro e w' ⟨rfl, rfl⟩
    exact ⟨ret_bool hmay, rfl⟩
  have hadd : addW l n = l.set (n / 64) (l.getD (n / 64) 0 ||| 2 ^ (n % 64)) := by
    unfold addW
    rw [hmay, cond_true, Int.toNat_natCast]
    unfold putW
    rw [padW_small _ _ (by omega)]
  obtain ⟨e0, f0⟩ := OwnW.cell hv rfl (n / 64) hk
  obtain ⟨hs, hgr⟩ := OwnW.set hv rfl (n / 64) (l.getD (n / 64) 0 ||| 2 ^ (n % 64))
  have HS := Lib.hid hs
  have HG := Lib.hid hgr
  have HADD := Lib.hid hadd
  have hx := getD_W64 hW (n / 64)
  have hb := bit_W64 n
  have hor : bits .or .u64 ((l.getD (n / 64) 0 : Nat) : Int) ((2 ^ (n % 64) : Nat) : Int) = ((l.getD (n / 64) 0 ||| 2 ^ (n % 64) : Nat) : Int) := u64_or_nat _ _ hx hb
  have HB := fun w => bit_any n w hn
  generalize l.getD (n / 64) 0 = x at *
  generalize hbn : 2 ^ (n % 64) = b at *
  clear hbn hadd hs hgr hmay hW hv
  go_enter Try.func49, Try.ntmps49
  go_wp2_with (go_at_call 43; refine HM.mono ?_; rintro e w' ⟨rfl, rfl⟩)
  have k1 : IntKind.i64.wrap ((n : Int) / 64) = ((n / 64 : Nat) : Int) := by rw [IntKind.wrap_i64]; omega
  have k3 : n / 64 < l.length := hk
  clear hk
  generalize n / 64 = i at *
  go_region_with (go_at_call 45; refine (HB _).mono ?_; rintro e w' ⟨rfl, rfl⟩)
  all_goals
    go_wp2_with fail
    go_ret
    exact ⟨_, rfl, by rw [HADD.out]; exact HS.out, grown_drew HG.out⟩
set_option maxRecDepth 10000 in
set_option maxHeartbeats 1000000 in
theorem added_grow (n : Nat) (p : Option Addr) (m c : Nat) (l : List Nat) (w : World) (base : Nat) (hn : n ≤ 65535) (hv : OwnW w base (.slice p m c) l) (hml : m = l.length) (hk : l.length ≤ n / 64) (hW : W64 l) (hb : base ≤ w.heap.size) :
    Calls Try.prog 49 #[.slice p m c, .int .i64 n] w fun e w' => ∃ v', e = .returned v' ∧ OwnW w' base v' (addW l n) ∧ Below base w w' := by
  subst hml
  obtain ⟨i0, hi0, hy0, hy1, hy2⟩ := info_parts info23
  have hmay : mayB (n : Int) = true := by simp [mayB]; omega
  have HM : Calls Try.prog 43 #[.int .i64 n] w fun e w' => e = .returned (.bool true) ∧ w = w' := by
    refine (may_any n w).mono ?_
    rintro e w' ⟨rfl, rfl⟩
    exact ⟨ret_bool hmay, rfl⟩
  obtain ⟨v1, w1, hrun, hown1, hgr1⟩ := run_zeros_own (P := Try.prog) w base 55 3 55 23 i0 (.int .u64 0) .i64 .i64 Try.underlying55 Try.underlying3 hi0 hy0 hy1 hy2 rfl rfl (.slice p l.length c) l.length _ hv (n / 64 + 1 - l.length) (by omega) (by omega) hb
  have hl1 : (padW l (n / 64 + 1)).length = n / 64 + 1 := by rw [padW_length]; omega
  have hown1' : OwnW w1 base v1 (padW l (n / 64 + 1)) := own_w hown1 _ (by rw [hl1]; omega) (by unfold padW; simp)
  clear hown1
  obtain ⟨p1, c1, rfl⟩ := hown1'.slice
  obtain ⟨g, rfl, -, hbg, hgw, hmc⟩ := OwnW.block hown1' (by omega)
  have hbel : Below base w w1 := (Below.refl _ w).grown hgr1 hb (fun k hk => (World.ownsRow.lt hv k hk).1)
  have hadd : addW l n = (padW l (n / 64 + 1)).set (n / 64) ((padW l (n / 64 + 1)).getD (n / 64) 0 ||| 2 ^ (n % 64)) := by
    unfold addW
    rw [hmay, cond_true, Int.toNat_natCast]
    rfl
  rw [hl1] at hown1' hrun hmc
  obtain ⟨e0, f0⟩ := OwnW.cell hown1' hl1.symm (n / 64) (by omega)
  obtain ⟨hs, hgr⟩ := OwnW.set hown1' hl1.symm (n / 64) ((padW l (n / 64 + 1)).getD (n / 64) 0 ||| 2 ^ (n % 64))
  have HS := Lib.hid hs
  have HG := Lib.hid (below_grown hbel hgr (by have := hgr1.size; omega) (fun k hk => by simp at hk; omega))
  have HADD := Lib.hid hadd
  have hx := getD_W64 (padW_W64 hW (n / 64 + 1)) (n / 64)
  have hb := bit_W64 n
  have hor : bits .or .u64 (((padW l (n / 64 + 1)).getD (n / 64) 0 : Nat) : Int) ((2 ^ (n % 64) : Nat) : Int) = (((padW l (n / 64 + 1)).getD (n / 64) 0 ||| 2 ^ (n % 64) : Nat) : Int) := u64_or_nat _ _ hx hb
  have HB := fun w => bit_any n w hn
  generalize (padW l (n / 64 + 1)).getD (n / 64) 0 = x at *
  generalize hbn : 2 ^ (n % 64) = b at *
  have k1 : IntKind.i64.wrap ((n : Int) / 64) = ((n / 64 : Nat) : Int) := by rw [IntKind.wrap_i64]; omega
  have k2 : (n : Int) / 64 + 1 - (l.length : Int) = ((n / 64 + 1 - l.length : Nat) : Int) := by omega
  have k4 : ((l.length : Int) < (n : Int) / 64 + 1) := by omega
  have HRUN := Lib.hid hrun
  have hgz := hgr1.size
  clear hbn hadd hs hgr hmay hW hv hown1' hrun hbel hgr1 hl1
  go_enter Try.func49, Try.ntmps49
  go_wp2_with (first | (go_at_call 43; refine HM.mono ?_; rintro e w' ⟨rfl, rfl⟩) | (at_builtin; refine Lib.wpList_append_run _ rfl _ _ 55 3 rfl (.slice p l.length c) (.int .i64 ((n / 64 + 1 - l.length : Nat) : Int)) rfl rfl _ _ HRUN.out ?_))
  clear k2 k4 HRUN hk
  generalize n / 64 = i at *
  go_region_with (go_at_call 45; refine (HB _).mono ?_; rintro e w' ⟨rfl, rfl⟩)
  all_goals
    go_wp2_with fail
    go_ret
    exact ⟨_, rfl, by rw [HADD.out]; exact HS.out, HG.out.drew⟩

/-- added: the words with a number put in, if it may be in. -/
theorem added_any (n : Int) (v : Value) (l : List Nat) (w : World) (base : Nat) (hv : OwnW w base v l) (hll : l.length ≤ 100000) (hW : W64 l) (hb : base ≤ w.heap.size) :
    Calls Try.prog 49 #[v, .int .i64 n] w fun e w' => ∃ v', e = .returned v' ∧ OwnW w' base v' (addW l n) ∧ Below base w w' := by
  cases h : mayB n with
  | false =>
    refine (added_no n v w h).mono ?_
    rintro e w' ⟨rfl, rfl⟩
    refine ⟨v, rfl, ?_, Below.refl _ _⟩
    unfold addW
    rw [h]
    exact hv
  | true =>
    have h2 : 0 ≤ n ∧ n ≤ 65535 := by simpa [mayB] using h
    obtain ⟨k, rfl⟩ : ∃ k : Nat, n = (k : Int) := ⟨n.toNat, by omega⟩
    obtain ⟨p, c, rfl⟩ := hv.slice
    by_cases hk : k / 64 < l.length
    · refine (added_room k p l.length c l w base (by omega) hv hk hll hW).mono ?_
      rintro e w' ⟨v', rfl, ho, hg⟩
      exact ⟨v', rfl, ho, (Below.refl _ w).grown hg hb (fun j hj => (World.ownsRow.lt hv j hj).1)⟩
    · exact added_grow k p l.length c l w base (by omega) hv rfl (by omega) hW hb

/-- The words of a list of numbers. -/
def ofW (l : List Int) : List Nat := l.foldl addW []
theorem ofW_snoc (l : List Int) (n : Int) : ofW (l ++ [n]) = addW (ofW l) n := by simp [ofW]
theorem ofW_W64 (l : List Int) : W64 (ofW l) := by
  have : ∀ (l : List Int) (a : List Nat), W64 a → W64 (l.foldl addW a) := by
    intro l
    induction l with
    | nil => intro a h; exact h
    | cons x r ih => intro a h; exact ih _ (addW_W64 h x)
  exact this l [] (fun x h => by simp at h)
theorem ofW_length (l : List Int) : (ofW l).length ≤ 1024 := by
  have : ∀ (l : List Int) (a : List Nat), a.length ≤ 1024 → (l.foldl addW a).length ≤ 1024 := by
    intro l
    induction l with
    | nil => intro a h; exact h
    | cons x r ih => intro a h; exact ih _ (by have := addW_length a x; omega)
  exact this l [] (by simp)
theorem memW_ofW (l : List Int) (m : Nat) (hm : m ≤ 65535) : memW (ofW l) m = decide ((m : Int) ∈ l) := by
  have : ∀ (l : List Int) (a : List Nat), memW (l.foldl addW a) m = (memW a m || decide ((m : Int) ∈ l)) := by
    intro l
    induction l with
    | nil => intro a; simp
    | cons x r ih =>
      intro a
      rw [List.foldl_cons, ih, memW_addW, Bool.or_assoc]
      congr 1
      by_cases h : (m : Int) = x
      · have : mayB x = true := by simp [mayB]; omega
        simp [h, this]
      · simp [h]
  rw [ofW, this, memW_nil, Bool.false_or]

set_option maxHeartbeats 1000000 in
theorem of_some (l : List Int) (b off c : Nat) (w : World) (hat : At mkI w b off l) (hb : b < w.heap.size) (hc : l.length ≤ c) (hl : l.length ≤ 1000) :
    Calls Try.prog 34 #[.slice (some ⟨b, off, none⟩) l.length c] w fun e w' => ∃ v', e = .returned v' ∧ OwnW w' w.heap.size v' (ofW l) ∧ Below w.heap.size w w' := by
  have H := Lib.hid hat
  have HV : Hid (OwnW w w.heap.size (.slice none 0 0) (ofW (l.take 0))) := Lib.hid (World.ownsRow_nil _ _ _ _)
  clear hat
  go_enter Try.func34, Try.ntmps34
  go_wp2
  go_loopw [3, 8] (fun v i wr => ∃ k : Nat, k ≤ l.length ∧ i = .int .i64 k ∧ OwnW wr w.heap.size v (ofW (l.take k)) ∧ Below w.heap.size w wr) (fun _ i _ => l.length - (intOf i).toNat)
  case atStart => exact ⟨0, by omega, rfl, HV.out, Below.refl _ _⟩
  case round =>
    obtain ⟨k, hk, rfl, hown, hbe⟩ := hrel
    have HO := Lib.hid hown
    have HB := Lib.hid hbe
    have hz := hbe.size
    clear HV
    by_cases hlt : k < l.length
    · have e0 := (hbe.cell (p := ⟨b, off + k, none⟩) hb).trans (H.out k hlt)
      have HS : Hid (ofW (l.take (k + 1)) = addW (ofW (l.take k)) (l[k])) := Lib.hid (by rw [List.take_succ_eq_append_getElem hlt, ofW_snoc])
      generalize l[k] = x at *
      clear hown hbe
      go_wp2_with fail
      refine (added_any x _ _ _ w.heap.size HO.out (by have := ofW_length (l.take k); omega) (ofW_W64 _) hz).mono ?_
      rintro e w1 ⟨v1, rfl, ho1, hb1⟩
      have HO1 := Lib.hid ho1
      clear ho1
      go_wp2_with fail
      go_roundw
      case rel => exact ⟨k + 1, by omega, by go_num, by rw [HS.out]; exact HO1.out, HB.out.trans hb1⟩
      case measure => simp [intOf]; omega
    · have hkk : Hid (l.take k = l) := Lib.hid (List.take_of_length_le (by omega))
      clear hown hbe
      go_wp2_with fail
      go_ret
      exact ⟨_, rfl, by have := HO.out; rw [hkk.out] at this; exact this, HB.out⟩
theorem of_none (p : Option Addr) (c : Nat) (w : World) :
    Calls Try.prog 34 #[.slice p 0 c] w fun e w' => ∃ v', e = .returned v' ∧ OwnW w' w.heap.size v' (ofW []) ∧ Below w.heap.size w w' := by
  have HV : Hid (OwnW w w.heap.size (.slice none 0 0) (ofW [])) := Lib.hid (World.ownsRow_nil _ _ _ _)
  go_enter Try.func34, Try.ntmps34
  go_wp2
  refine wp_loop_rounds 1 ?_
  rw [rounds_succ]
  go_wp2
  go_ret
  exact ⟨_, rfl, HV.out, Below.refl _ _⟩
/-- Of: the set of those that may be in one. -/
theorem of_any (p : Option Addr) (n c : Nat) (l : List Int) (w : World) (h : In mkI w p n c l) (hl : n ≤ 1000) :
    Calls Try.prog 34 #[.slice p n c] w fun e w' => ∃ v', e = .returned v' ∧ OwnW w' w.heap.size v' (ofW l) ∧ Below w.heap.size w w' := by
  obtain ⟨rfl, h0 | ⟨b, off, rfl, hc, hb, hat⟩⟩ := h
  · have : l = [] := List.length_eq_zero_iff.1 h0
    subst this
    exact of_none p c w
  · exact of_some l b off c w hat hb hc hl
end Go.Proofs.Ytlfnefgcndhomaa
