/-
  Fresh: the first fresh name that is not taken.
-/
import Derived.Test.YthknejgdchpaaaaDoorFreshN
import Derived.OwnWalk
namespace Go.Proofs.YthknejgdchpaaaaDoor
open Go.RowKit Go.Maps
set_option linter.unusedVariables false
set_option linter.unusedSimpArgs false

theorem law9 : Keyed Tryd.prog 9 := string_keyed Tryd.underlying9
theorem zero45 (w : World) : (zeroValue 45).run Tryd.prog w = .ok (.agg #[]) w := by kernel_rfl
theorem run_makeMap_hint (n : Int) (w : World) : (Instr.makeMap 44 (some (.int .i64 n))).run Tryd.prog w = .ok (.map (some w.heap.size)) (w.alloc (.map #[] 0)) := by
  simp [Instr.makeMap, run_underlying Tryd.underlying44, asInt, asIntOf, Result.andThen]
def litS (s : ByteArray) : Lit := .string s.data.toList
/-- The set of the first k texts. -/
def Sd (l : List ByteArray) (k : Nat) : DataW Unit := setOf (.agg []) ((l.take k).map litS)
theorem Sd_zero (l : List ByteArray) : Sd l 0 = .map [] := by simp [Sd, setOf]
theorem Sd_succ (l : List ByteArray) (k : Nat) (h : k < l.length) : Sd l (k + 1) = (Sd l k).put (litS (l[k]'h)) (.agg []) := by
  unfold Sd
  rw [List.take_succ_eq_append_getElem h, List.map_append, List.map_singleton, setOf_snoc]
theorem has_Sd (l : List ByteArray) (s : ByteArray) : Maps.has (Sd l l.length) (litS s) = inB l s := by
  unfold Sd inB
  rw [List.take_length, has_setOf _ _ _ (fun y hy => by obtain ⟨_, _, rfl⟩ := List.mem_map.1 hy; trivial), List.any_map]
  congr 1
  funext t
  rw [Lib.toList_data, Lib.toList_data]
  show Lit.sameKey (.string t.data.toList) (.string s.data.toList) = _
  simp [Lit.sameKey]
theorem key_of (s : ByteArray) (h : s.size ≤ 9223372036854775807) : keyOf Tryd.prog 9 (.string s) = some (litS s) := Go.WideMaps.keyOf_string_mk Tryd.underlying9 h
/-- N is the number of the first fresh name that is not on the row. -/
structure First (L : ByteArray) (l : List ByteArray) (N : Nat) : Prop where
  le : N ≤ l.length
  free : inB l (frT L N) = false
  not : ∀ j, j < N → inB l (frT L j) = true
theorem frT_size (L : ByteArray) (n : Nat) (h : n < 300) (hL : L.size = 3) : (frT L n).size ≤ 3 := by
  unfold frT
  rw [ByteArray.size_append]
  have h1 : (L.extract (n % 3) (n % 3 + 1)).size ≤ 1 := by simp; omega
  have h2 : ((if n / 3 = 0 then ⟨#[]⟩ else ⟨(Lib.decDigits (n / 3)).toArray⟩ : ByteArray)).size ≤ 2 := by
    split
    · decide
    · have := dd_len (n / 3) (by omega); simp [ByteArray.size]; omega
  omega
theorem below_undrewN {N : Nat} {w w1 : World} {d : Nat} (h : Below N (w.drewN d) w1) : Below N w w1 := ⟨h.os, h.tape, h.output, h.size, h.block⟩

theorem map_drewN {w : World} {b n : Nat} {D : DataW Unit} (h : w.ownsMap Tryd.prog 9 unitElem b n D) (d : Nat) : (w.drewN d).ownsMap Tryd.prog 9 unitElem b n D := h
set_option maxRecDepth 100000 in
set_option maxHeartbeats 2000000 in
theorem fresh_some (q : Int) (l : List ByteArray) (b off n cap N : Nat) (w : World) (hat : At w b off l) (hb : b < w.heap.size) (hn : n = l.length) (hc : n ≤ cap) (hlim : n ≤ 200) (h0 : 0 < n) (hsz : ∀ s ∈ l, s.size ≤ 1000000)
    (hL : (letT q).size = 3) (hF : First (letT q) l N) :
    Calls Tryd.prog 26 #[.int .i64 q, .slice (some ⟨b, off, none⟩) n cap] w fun e w' => e = .returned (.tuple #[.string (frT (letT q) N), .bool true]) ∧ Below w.heap.size w w' := by
  have hmm := run_makeMap_hint (n : Int)
  have HLt := fun w => letters_any q w
  have HA := Lib.hid hat
  have HN := Lib.hid hn
  have HS := Lib.hid hsz
  have HF := Lib.hid hF
  have hNl : N ≤ n := by rw [hn]; exact hF.le
  have hem : (letT q).toList.isEmpty = false := by
    rw [Lib.toList_data]
    cases e : (letT q).data.toList with
    | nil => have := data_len (letT q); rw [e] at this; simp at this; omega
    | cons => rfl
  clear hat hn hsz hF
  generalize letT q = L at *
  go_enter Tryd.func26, Tryd.ntmps26
  go_wp2_with (first | (go_at_call 37; refine (HLt _).mono ?_; rintro e w1 ⟨rfl, rfl⟩))
  go_loopw [23] (fun i wr => ∃ k : Nat, k ≤ n ∧ i = .int .i64 k ∧ wr.ownsMap Tryd.prog 9 unitElem w.heap.size k (Sd l k) ∧ Below w.heap.size w wr ∧ w.heap.size < wr.heap.size) (fun i _ => n - (intOf i).toNat)
  case atStart => exact ⟨0, by omega, rfl, by rw [Sd_zero]; exact World.ownsMap_made _ _ _ _, (Below.refl _ _).alloc (Nat.le_refl _) _, by simp⟩
  case round =>
    obtain ⟨k, hk, rfl, hown, hbe, hgr⟩ := hrel
    by_cases hlt : k < n
    · have hkl : k < l.length := by have := HN.out; omega
      have hcell : wr.cell? ⟨b, off + k, none⟩ = some (.string (l[k]'hkl)) := (hbe.cell (p := ⟨b, _, none⟩) hb).trans (HA.out k hkl)
      have hkey := key_of (l[k]'hkl) (by have := HS.out _ (List.getElem_mem hkl); omega)
      have HSd := Lib.hid (Sd_succ l k hkl)
      generalize l[k]'hkl = t at hcell hkey HSd
      go_wp2_with (first
        | (at_mapUpdate; refine wpList_mapUpdate_own _ rfl _ _ _ 44 rfl 9 45 law9 Tryd.underlying44 (unitElem (H := Unit)) w.heap.size k _ rfl hown (by unfold maxLen; omega) _ _ _ rfl rfl hkey _ [] unitElem_mk ?_; intro w1 hown1 hgrow1)
        | go_in)
      have HO := Lib.hid (HSd.out ▸ hown1)
      have HG := Lib.hid hgrow1
      clear hown1 hgrow1
      go_roundw
      case rel => exact ⟨k + 1, by omega, by go_num, HO.out, hbe.grown HG.out (by omega) (fun j hj => by cases hj; exact Nat.le_refl _), Nat.lt_of_lt_of_le hgr HG.out.size⟩
      case measure => simp [intOf]; omega
    · have e : k = n := by omega
      subst e
      have HM : Hid (wr.ownsMap Tryd.prog 9 unitElem w.heap.size k (Sd l l.length)) := Lib.hid (by have := HN.out; rw [← this]; exact hown)
      have HB1 := Lib.hid hbe
      clear hown hbe hlt HA HS
      have hlen : Hid (k = l.length) := Lib.hid HN.out
      go_wp2
      generalize wr = W1 at *
      go_loopw [10] (fun i w2 => ∃ j : Nat, j ≤ N ∧ i = .int .i64 j ∧ Below W1.heap.size W1 w2 ∧ w2.ownsMap Tryd.prog 9 unitElem w.heap.size k (Sd l l.length)) (fun i _ => N - (intOf i).toNat)
      case atStart => exact ⟨0, by omega, rfl, Below.refl _ _, HM.out⟩
      case round =>
        obtain ⟨j, hj, rfl, hb2, hown⟩ := hrel
        have HO := Lib.hid hown
        have HB2 := Lib.hid hb2
        clear hown hb2
        have HX := freshName_any L j wr hL (by omega)
        have hkey := key_of (frT L j) (by have := frT_size L j (by omega) hL; omega)
        by_cases hjN : j < N
        · have hhas : Maps.has (Sd l l.length) (litS (frT L j)) = true := by rw [has_Sd]; exact HF.out.not j hjN
          generalize frT L j = s at HX hkey hhas
          go_wp2_with fail
          refine HX.mono ?_
          rintro e w3 ⟨rfl, d, rfl⟩
          go_wp2_with (first
            | (at_lookup; refine wpList_lookup_own_unit _ rfl _ _ 44 rfl 9 45 law9 Tryd.underlying44 (zero45 _) w.heap.size k _ rfl (map_drewN HO.out _) _ _ rfl hkey ?_)
            | go_in)
          go_roundw
          case rel => exact ⟨j + 1, by omega, by go_num, (below_drewN HB2.out d).alloc HB2.out.size _, (map_drewN HO.out d).alloc _⟩
          case measure => simp [intOf]; omega
        · have e : j = N := by omega
          subst e
          have hhas : Maps.has (Sd l l.length) (litS (frT L j)) = false := by rw [has_Sd]; exact HF.out.free
          generalize hs : frT L j = s at HX hkey hhas
          have HS := Lib.hid hs
          clear hs
          go_wp2_with fail
          refine HX.mono ?_
          rintro e w3 ⟨rfl, d, rfl⟩
          go_wp2_with (first
            | (at_lookup; refine wpList_lookup_own_unit _ rfl _ _ 44 rfl 9 45 law9 Tryd.underlying44 (zero45 _) w.heap.size k _ rfl (map_drewN HO.out _) _ _ rfl hkey ?_)
            | go_in)
          go_ret2
          exact ⟨by rw [HS.out]; rfl, HB1.out.trans (((below_drewN HB2.out d).alloc HB2.out.size _).mono HB1.out.size)⟩

set_option maxRecDepth 100000 in
set_option maxHeartbeats 2000000 in
theorem fresh_nil (q : Int) (p : Option Addr) (cap : Nat) (w : World) (hL : (letT q).size = 3) :
    Calls Tryd.prog 26 #[.int .i64 q, .slice p 0 cap] w fun e w' => e = .returned (.tuple #[.string (frT (letT q) 0), .bool true]) ∧ Below w.heap.size w w' := by
  have hmm := run_makeMap_hint 0
  have HLt := fun w => letters_any q w
  have hem : (letT q).toList.isEmpty = false := by
    rw [Lib.toList_data]
    cases e : (letT q).data.toList with
    | nil => have := data_len (letT q); rw [e] at this; simp at this; omega
    | cons => rfl
  generalize letT q = L at *
  have HX := fun w => freshName_any L 0 w hL (by omega)
  have hkey := key_of (frT L 0) (by have := frT_size L 0 (by omega) hL; omega)
  have hhas : Maps.has (Sd [] 0) (litS (frT L 0)) = false := has_Sd [] (frT L 0)
  have HS : Hid (∀ W : World, (W.alloc (.map #[] 0)).ownsMap Tryd.prog 9 unitElem W.heap.size 0 (Sd [] 0)) := Lib.hid fun W => by rw [Sd_zero]; exact World.ownsMap_made _ _ _ _
  generalize hs : frT L 0 = s at HX hkey hhas
  have HE := Lib.hid hs
  clear hs
  go_enter Tryd.func26, Tryd.ntmps26
  go_wp2_with (first | (go_at_call 37; refine (HLt _).mono ?_; rintro e w1 ⟨rfl, rfl⟩))
  refine wp_loop_rounds 1 ?_
  rw [rounds_succ]
  go_wp2
  refine wp_loop_rounds 1 ?_
  rw [rounds_succ]
  go_wp2_with fail
  refine (HX _).mono ?_
  rintro e w3 ⟨rfl, d, rfl⟩
  go_wp2_with (first
    | (at_lookup; refine wpList_lookup_own_unit _ rfl _ _ 44 rfl 9 45 law9 Tryd.underlying44 (zero45 _) w.heap.size 0 _ rfl (map_drewN (HS.out w) _) _ _ rfl hkey ?_)
    | go_in)
  go_ret2
  exact ⟨rfl, (below_drewN ((Below.refl _ _).alloc (Nat.le_refl _) _) d).alloc (by simp) _⟩
theorem fresh_none (q : Int) (p : Option Addr) (n cap : Nat) (w : World) (hL : letT q = ⟨#[]⟩) :
    Calls Tryd.prog 26 #[.int .i64 q, .slice p n cap] w fun e w' => e = .returned (.tuple #[.string ⟨#[]⟩, .bool false]) ∧ w = w' := by
  have HLt := letters_any q w
  rw [hL] at HLt
  go_enter Tryd.func26, Tryd.ntmps26
  go_wp2_with (first | (go_at_call 37; refine HLt.mono ?_; rintro e w1 ⟨rfl, rfl⟩))
  go_ret2
  exact ⟨rfl, rfl⟩
theorem fresh_any (q : Int) (l : List ByteArray) (p : Option Addr) (n cap N : Nat) (w : World) (h : In w p n cap l) (hlim : n ≤ 200) (hsz : ∀ s ∈ l, s.size ≤ 1000000) (hL : (letT q).size = 3) (hF : First (letT q) l N) :
    Calls Tryd.prog 26 #[.int .i64 q, .slice p n cap] w fun e w' => e = .returned (.tuple #[.string (frT (letT q) N), .bool true]) ∧ Below w.heap.size w w' := by
  obtain ⟨hn, h0 | ⟨b, off, rfl, hc, hb, hat⟩⟩ := h
  · subst h0
    have : N = 0 := by have := hF.le; omega
    subst this
    exact fresh_nil q p cap w hL
  · by_cases h0 : n = 0
    · subst h0
      have : N = 0 := by have := hF.le; omega
      subst this
      exact fresh_nil q _ cap w hL
    · exact fresh_some q l b off n cap N w hat hb hn hc hlim (by omega) hsz hL hF
end Go.Proofs.YthknejgdchpaaaaDoor
