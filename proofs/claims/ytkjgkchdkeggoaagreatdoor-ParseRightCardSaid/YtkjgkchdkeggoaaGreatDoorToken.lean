/-
  token: the token at a place.
-/
import Derived.Test.YtkjgkchdkeggoaaGreatDoorParts
namespace Go.Proofs.YtkjgkchdkeggoaaGreatDoor
open Go.RowKit
set_option linter.unusedVariables false
set_option linter.unusedSimpArgs false

theorem prefix_at (s : ByteArray) (a : Nat) (h : a < s.size) : Lib.hasPrefix (s.extract a s.size).data.toList [40, 42] = (eqB s[a] 40 && headB (s.data.toList.drop (a + 1)) 42) := by
  have e1 : (s.extract a s.size).data.toList = s.data.toList.drop a := by
    rw [Lib.extract_data, List.take_of_length_le (by rw [List.length_drop, data_len]; omega)]
  rw [e1, drop_at s a h]
  cases hr : s.data.toList.drop (a + 1) with
  | nil => simp [headB, Lib.hasPrefix, List.isPrefixOf]
  | cons d r =>
    unfold headB eqB Lib.hasPrefix
    simp only [List.isPrefixOf, Bool.and_true]
    rw [show ((40 : UInt8) == s[a]) = ((s[a].toNat : Int) == 40) from by rw [Bool.eq_iff_iff]; simp only [beq_iff_eq, u8_eq]; constructor <;> intro h <;> exact h.symm]
    rw [show ((42 : UInt8) == d) = ((d.toNat : Int) == 42) from by rw [Bool.eq_iff_iff]; simp only [beq_iff_eq, u8_eq]; constructor <;> intro h <;> exact h.symm]
theorem extract_drop (s : ByteArray) (a n : Nat) : (s.extract a (a + n)).data.toList = (s.data.toList.drop a).take n := by
  rw [Lib.extract_data, show a + n - a = n from by omega]
theorem tokN_at (s : ByteArray) (a : Nat) (h : a < s.size) : tokN (s.data.toList.drop a) =
    bif blankB s[a] then (1, passN (pureF blankB) () (s.data.toList.drop a))
    else bif ((s[a].toNat : Int) == 34) then quoteN (s.data.toList.drop (a + 1))
    else bif Lib.hasPrefix (s.extract a s.size).data.toList [40, 42] then noteN (s.data.toList.drop a)
    else bif restB s[a] then (plainN (s.extract a (a + passN (pureF restB) () (s.data.toList.drop a))).data.toList, passN (pureF restB) () (s.data.toList.drop a))
    else bif signB s[a] then (plainN (s.extract a (a + passN (pureF signB) () (s.data.toList.drop a))).data.toList, passN (pureF signB) () (s.data.toList.drop a))
    else (plainN (s.extract a (a + 1)).data.toList, 1) := by
  rw [prefix_at s a h, extract_drop, extract_drop, extract_drop, drop_at s a h]
  rfl

theorem token_end (s : ByteArray) (w : World) (hs : s.size ≤ 1000000) :
    Calls Tryz.prog 79 #[.string s, .int .i64 s.size] w fun e w' => e = .returned (.agg #[.int .i64 0, .int .i64 s.size, .int .i64 s.size]) ∧ Below w.heap.size w w' := by
  go_enter Tryz.func79, Tryz.ntmps79
  go_wp2
  go_returns
  exact ⟨rfl, (Below.refl _ _).alloc (Nat.le_refl _) _⟩
/-- What token answers. -/
def tokV (a : Nat) (t : Int × Nat) : Value := .agg #[.int .i64 t.1, .int .i64 a, .int .i64 ((a + t.2 : Nat) : Int)]
theorem Kw.alloc {w : World} (h : Kw w) (o : Obj) : Kw (w.alloc o) := h.step ((Below.refl _ _).alloc (Nat.le_refl _) o)
theorem tok_ret {a : Nat} {k : Int} {E : Nat} {t : Int × Nat} (h : t = (k, E - a)) (ha : a ≤ E) : Ending.returned (.agg #[.int .i64 k, .int .i64 a, .int .i64 E]) = .returned (tokV a t) := by
  subst h; unfold tokV; rw [show a + (E - a) = E from by omega]
/-- Along a run that ends in a token of its own block. -/
theorem below_set {N : Nat} {w w1 : World} (h : Below N w w1) (hN : N ≤ w1.heap.size) (b : Nat) (hb : N ≤ b) (v : Value) (k : Nat) : Below N w (w1.setCell ⟨b, k, none⟩ v) := h.setCell hb _

theorem slice_at (s : ByteArray) (a n : Nat) (h : a + n ≤ s.size) (w : World) : Sem.run Tryz.prog (Instr.slice 9 (.string s) (some (.int .i64 a)) (some (.int .i64 ((a : Int) + (n : Int)))) none) w = .ok (.string (s.extract a (a + n))) w := by
  have := run_slice_string (P := Tryz.prog) (w := w) 9 s .i64 .i64 (a : Int) ((a : Int) + (n : Int)) Tryz.underlying9 (by omega) (by omega) (by omega)
  have e : ((a : Int) + (n : Int)).toNat = a + n := by omega
  rw [e, show (a : Int).toNat = a from by omega] at this
  exact this
structure Own3 (w : World) (b : Nat) (x y z : Value) (T : TypeId) : Prop where
  cells : w.heap[b]? = some (.cells #[x, y, z] T (0, 0))
theorem Own3.c0 {w : World} {b : Nat} {x y z : Value} {T : TypeId} (h : Own3 w b x y z T) : w.cell? ⟨b, 0, none⟩ = some x := by simp [World.cell?, h.cells]
theorem Own3.c1 {w : World} {b : Nat} {x y z : Value} {T : TypeId} (h : Own3 w b x y z T) : w.cell? ⟨b, 1, none⟩ = some y := by simp [World.cell?, h.cells]
theorem Own3.c2 {w : World} {b : Nat} {x y z : Value} {T : TypeId} (h : Own3 w b x y z T) : w.cell? ⟨b, 2, none⟩ = some z := by simp [World.cell?, h.cells]
theorem Own3.f {w : World} {b : Nat} {x y z : Value} {T : TypeId} (h : Own3 w b x y z T) (k : Nat) : w.frozen? ⟨b, k, none⟩ = false := by simp [World.frozen?, h.cells]
theorem row_setCell {w : World} {b k : Nat} {xs : Array Value} {u : Value} {t : TypeId} (h : w.heap[b]? = some (.cells xs t (0, 0))) : (w.setCell ⟨b, k, none⟩ u).heap[b]? = some (.cells (xs.setIfInBounds k u) t (0, 0)) := by
  have hlt := lt_of_block h
  have h' : w.heap[b] = .cells xs t (0, 0) := by simpa [Array.getElem?_eq_getElem hlt] using h
  show (w.heap.modify b _)[b]? = _
  rw [Array.getElem?_eq_getElem (by simpa using hlt), Array.getElem_modify_self, h']
  rfl
theorem Own3.set {w : World} {b : Nat} {x y z : Value} {T : TypeId} (h : Own3 w b x y z T) (x' y' z' : Value) : Own3 (((w.setCell ⟨b, 0, none⟩ x').setCell ⟨b, 1, none⟩ y').setCell ⟨b, 2, none⟩ z') b x' y' z' T :=
  ⟨row_setCell (row_setCell (row_setCell h.cells))⟩

set_option maxHeartbeats 4000000 in
theorem token_any (s : ByteArray) (hs : s.size ≤ 1000000) (a : Nat) (ha : a < s.size) (w : World) (hk : Kw w) :
    Calls Tryz.prog 79 #[.string s, .int .i64 a] w fun e w' => e = .returned (tokV a (tokN (s.data.toList.drop a))) ∧ Below w.heap.size w w' := by
  have hT := tokN_at s a ha
  have HB := fun W => blank_any s[a] W
  have HR := fun W => lrest_any s[a] W
  have HS := fun W => lsign_any s[a] W
  have HH := fun W => Tryz.strings_HasPrefix (s.extract a s.size) ⟨#[40, 42]⟩ W
  have hhd : (⟨#[40, 42]⟩ : ByteArray).data.toList = [40, 42] := rfl
  rw [hhd] at HH
  have hbl := passN_le (pureF blankB) () (s.data.toList.drop a)
  have hrl := passN_le (pureF restB) () (s.data.toList.drop a)
  have hsl := passN_le (pureF signB) () (s.data.toList.drop a)
  rw [List.length_drop, data_len] at hbl hrl hsl
  have hW := hk.alloc (.cells #[.int .i64 0, .int .i64 0, .int .i64 0] 39)
  have HPB := fun W => pass_pure blankB 100 cf23 blank_any s hs a (by omega) W
  have HPR := fun W => pass_pure restB 105 cf28 lrest_any s hs a (by omega) W
  have HPS := fun W => pass_pure signB 107 cf30 lsign_any s hs a (by omega) W
  have hrp : restB s[a] = true → 0 < passN (pureF restB) () (s.data.toList.drop a) := fun h => by rw [drop_at s a ha]; exact pass_pos h
  have hsp : signB s[a] = true → 0 < passN (pureF signB) () (s.data.toList.drop a) := fun h => by rw [drop_at s a ha]; exact pass_pos h
  generalize hgb : passN (pureF blankB) () (s.data.toList.drop a) = nb at *
  generalize hgr : passN (pureF restB) () (s.data.toList.drop a) = nr at *
  generalize hgs : passN (pureF signB) () (s.data.toList.drop a) = ns at *
  clear hgb hgr hgs
  cases h1 : blankB s[a]
  case true =>
    rw [h1] at HB hT
    have HT := Lib.hid hT
    clear hT hk hrp hsp h1
    go_enter Tryz.func79, Tryz.ntmps79
    go_wp2_with fail
    refine (HB _).mono ?_
    rintro e w1 ⟨rfl, rfl⟩
    go_wp2_with fail
    refine (HPB _).mono ?_
    rintro e w1 ⟨rfl, rfl⟩
    go_wp2_with fail
    go_returns
    rw [HT.out]
    exact ⟨rfl, (Below.refl _ _).alloc (Nat.le_refl _) _⟩
  rw [h1] at HB hT
  clear h1
  cases h2 : ((s[a].toNat : Int) == 34)
  case true =>
    rw [h2] at hT
    have HT := Lib.hid hT
    have HQ := fun W => quoted_any s hs a ha W
    generalize quoteN (s.data.toList.drop (a + 1)) = q at *
    obtain ⟨k, m⟩ := q
    clear hT hk hrp hsp
    go_enter Tryz.func79, Tryz.ntmps79
    go_wp2_with fail
    refine (HB _).mono ?_
    rintro e w1 ⟨rfl, rfl⟩
    go_wp2_with fail
    refine (HQ _).mono ?_
    rintro e w1 ⟨rfl, hb⟩
    have hcl := hb.block w.heap.size (by simp)
    rw [heap_alloc_new] at hcl
    have HO : Own3 w1 w.heap.size _ _ _ _ := ⟨hcl⟩
    have c0 := HO.c0
    have c1 := HO.c1
    have c2 := HO.c2
    have f0 := HO.f 0
    have f1 := HO.f 1
    have f2 := HO.f 2
    clear hcl
    have HBel := Lib.hid ((((Below.refl w.heap.size w).alloc (Nat.le_refl _) _)).trans (hb.mono (by simp)))
    clear hb
    go_wp2_with fail
    have HO2 := HO.set (.int .i64 k) (.int .i64 (a : Int)) (.int .i64 ((a : Int) + (m : Int)))
    have HB2 := Lib.hid (((HBel.out.setCell (p := ⟨w.heap.size, 0, none⟩) (Nat.le_refl _) (.int .i64 k)).setCell (p := ⟨w.heap.size, 1, none⟩) (Nat.le_refl _) (.int .i64 (a : Int))).setCell (p := ⟨w.heap.size, 2, none⟩) (Nat.le_refl _) (.int .i64 ((a : Int) + (m : Int))))
    clear c0 c1 c2 f0 f1 f2 HO HBel
    generalize (((w1.setCell ⟨w.heap.size, 0, none⟩ (.int .i64 k)).setCell ⟨w.heap.size, 1, none⟩ (.int .i64 (a : Int))).setCell ⟨w.heap.size, 2, none⟩ (.int .i64 ((a : Int) + (m : Int)))) = W2 at *
    have c0 := HO2.c0
    have c1 := HO2.c1
    have c2 := HO2.c2
    try simp only [Exit.inBlock, Exit.then]
    refine bodyPost_ret (by simp [results, Tryz.results79, go_sem, c0, c1, c2, Result.andThen]; try rfl) rfl ?_
    rw [HT.out]
    exact ⟨rfl, HB2.out⟩
  rw [h2] at hT
  have h2' := h2
  clear h2
  cases h3 : Lib.hasPrefix (s.extract a s.size).data.toList [40, 42]
  case true =>
    rw [h3] at HH hT
    have HT := Lib.hid hT
    have HQ := fun W => note_any s hs a ha W
    generalize noteN (s.data.toList.drop a) = q at *
    obtain ⟨k, m⟩ := q
    clear hT hk hrp hsp h3
    go_enter Tryz.func79, Tryz.ntmps79
    go_wp2_with fail
    refine (HB _).mono ?_
    rintro e w1 ⟨rfl, rfl⟩
    go_wp2_with fail
    refine (HH _).mono ?_
    rintro e w1 ⟨rfl, rfl⟩
    go_wp2_with fail
    refine (HQ _).mono ?_
    rintro e w1 ⟨rfl, hb⟩
    have hcl := hb.block w.heap.size (by simp)
    rw [heap_alloc_new] at hcl
    have HO : Own3 w1 w.heap.size _ _ _ _ := ⟨hcl⟩
    have c0 := HO.c0
    have c1 := HO.c1
    have c2 := HO.c2
    have f0 := HO.f 0
    have f1 := HO.f 1
    have f2 := HO.f 2
    clear hcl
    have HBel := Lib.hid ((((Below.refl w.heap.size w).alloc (Nat.le_refl _) _)).trans (hb.mono (by simp)))
    clear hb
    go_wp2_with fail
    have HO2 := HO.set (.int .i64 k) (.int .i64 (a : Int)) (.int .i64 ((a : Int) + (m : Int)))
    have HB2 := Lib.hid (((HBel.out.setCell (p := ⟨w.heap.size, 0, none⟩) (Nat.le_refl _) (.int .i64 k)).setCell (p := ⟨w.heap.size, 1, none⟩) (Nat.le_refl _) (.int .i64 (a : Int))).setCell (p := ⟨w.heap.size, 2, none⟩) (Nat.le_refl _) (.int .i64 ((a : Int) + (m : Int))))
    clear c0 c1 c2 f0 f1 f2 HO HBel
    generalize (((w1.setCell ⟨w.heap.size, 0, none⟩ (.int .i64 k)).setCell ⟨w.heap.size, 1, none⟩ (.int .i64 (a : Int))).setCell ⟨w.heap.size, 2, none⟩ (.int .i64 ((a : Int) + (m : Int)))) = W2 at *
    have c0 := HO2.c0
    have c1 := HO2.c1
    have c2 := HO2.c2
    try simp only [Exit.inBlock, Exit.then]
    refine bodyPost_ret (by simp [results, Tryz.results79, go_sem, c0, c1, c2, Result.andThen]; try rfl) rfl ?_
    rw [HT.out]
    exact ⟨rfl, HB2.out⟩
  rw [h3] at HH hT
  clear h3
  cases h4 : restB s[a]
  case true =>
    rw [h4] at HR hT
    have HT := Lib.hid hT
    have hp := hrp h4
    have hsl := slice_at s a nr (by omega)
    have HPl := plain_any (s.extract a (a + nr)) (by simp; omega) (by simp; omega) _ hW
    generalize plainN (s.extract a (a + nr)).data.toList = k at *
    clear hT hk hrp hsp h4
    go_enter Tryz.func79, Tryz.ntmps79
    go_wp2_with fail
    refine (HB _).mono ?_
    rintro e w1 ⟨rfl, rfl⟩
    go_wp2_with fail
    refine (HH _).mono ?_
    rintro e w1 ⟨rfl, rfl⟩
    go_wp2_with fail
    refine (HR _).mono ?_
    rintro e w1 ⟨rfl, rfl⟩
    go_wp2_with fail
    refine (HPR _).mono ?_
    rintro e w1 ⟨rfl, rfl⟩
    go_wp2_with fail
    refine (HPl).mono ?_
    rintro e w1 ⟨rfl, rfl⟩
    go_wp2_with fail
    go_returns
    rw [HT.out]
    exact ⟨rfl, (Below.refl _ _).alloc (Nat.le_refl _) _⟩
  rw [h4] at HR hT
  clear h4
  cases h5 : signB s[a]
  case true =>
    rw [h5] at HS hT
    have HT := Lib.hid hT
    have hp := hsp h5
    have hsl := slice_at s a ns (by omega)
    have HPl := plain_any (s.extract a (a + ns)) (by simp; omega) (by simp; omega) _ hW
    generalize plainN (s.extract a (a + ns)).data.toList = k at *
    clear hT hk hrp hsp h5
    go_enter Tryz.func79, Tryz.ntmps79
    go_wp2_with fail
    refine (HB _).mono ?_
    rintro e w1 ⟨rfl, rfl⟩
    go_wp2_with fail
    refine (HH _).mono ?_
    rintro e w1 ⟨rfl, rfl⟩
    go_wp2_with fail
    refine (HR _).mono ?_
    rintro e w1 ⟨rfl, rfl⟩
    go_wp2_with fail
    refine (HS _).mono ?_
    rintro e w1 ⟨rfl, rfl⟩
    go_wp2_with fail
    refine (HPS _).mono ?_
    rintro e w1 ⟨rfl, rfl⟩
    go_wp2_with fail
    refine (HPl).mono ?_
    rintro e w1 ⟨rfl, rfl⟩
    go_wp2_with fail
    go_returns
    rw [HT.out]
    exact ⟨rfl, (Below.refl _ _).alloc (Nat.le_refl _) _⟩
  rw [h5] at HS hT
  clear h5
  have HT := Lib.hid hT
  have hsl := slice_at s a 1 (by omega)
  simp only [Int.cast_ofNat_Int] at hsl
  have HPl := plain_any (s.extract a (a + 1)) (by simp; omega) (by simp; omega) _ hW
  generalize plainN (s.extract a (a + 1)).data.toList = k at *
  clear hT hk hrp hsp
  go_enter Tryz.func79, Tryz.ntmps79
  go_wp2_with fail
  refine (HB _).mono ?_
  rintro e w1 ⟨rfl, rfl⟩
  go_wp2_with fail
  refine (HH _).mono ?_
  rintro e w1 ⟨rfl, rfl⟩
  go_wp2_with fail
  refine (HR _).mono ?_
  rintro e w1 ⟨rfl, rfl⟩
  go_wp2_with fail
  refine (HS _).mono ?_
  rintro e w1 ⟨rfl, rfl⟩
  go_wp2_with fail
  refine (HPl).mono ?_
  rintro e w1 ⟨rfl, rfl⟩
  go_wp2_with fail
  go_returns
  rw [HT.out]
  exact ⟨rfl, (Below.refl _ _).alloc (Nat.le_refl _) _⟩
end Go.Proofs.YtkjgkchdkeggoaaGreatDoor
