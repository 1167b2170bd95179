/-
  Space, the document's words of spaces, and are two rows the same.
-/
import Derived.Test.YthknejgdchpaaaaDoorRowsOf
namespace Go.Proofs.YthknejgdchpaaaaDoor
open Go.RowKit
set_option linter.unusedVariables false
set_option linter.unusedSimpArgs false

def spT : List ByteArray := [⟨#[]⟩, ⟨#[118, 97, 108, 117, 101]⟩, ⟨#[99, 111, 110, 115, 116, 114, 117, 99, 116, 111, 114]⟩, ⟨#[116, 121, 112, 101]⟩, ⟨#[115, 116, 114, 117, 99, 116, 117, 114, 101]⟩, ⟨#[115, 105, 103, 110, 97, 116, 117, 114, 101]⟩, ⟨#[102, 117, 110, 99, 116, 111, 114]⟩]
def spaceT (p : Int) : ByteArray := if 1 ≤ p ∧ p ≤ 6 then spT.getD p.toNat ⟨#[]⟩ else ⟨#[]⟩
theorem space_any (p : Int) (w : World) : Calls Tryd.prog 23 #[.int .i64 p] w fun e w' => e = .returned (.string (spaceT p)) ∧ w = w' := by
  by_cases h1 : p = 1
  · subst h1; go_enter Tryd.func23, Tryd.ntmps23; go_wp2; go_ret; exact ⟨rfl, rfl⟩
  by_cases h2 : p = 2
  · subst h2; go_enter Tryd.func23, Tryd.ntmps23; go_wp2; go_ret; exact ⟨rfl, rfl⟩
  by_cases h3 : p = 3
  · subst h3; go_enter Tryd.func23, Tryd.ntmps23; go_wp2; go_ret; exact ⟨rfl, rfl⟩
  by_cases h4 : p = 4
  · subst h4; go_enter Tryd.func23, Tryd.ntmps23; go_wp2; go_ret; exact ⟨rfl, rfl⟩
  by_cases h5 : p = 5
  · subst h5; go_enter Tryd.func23, Tryd.ntmps23; go_wp2; go_ret; exact ⟨rfl, rfl⟩
  by_cases h6 : p = 6
  · subst h6; go_enter Tryd.func23, Tryd.ntmps23; go_wp2; go_ret; exact ⟨rfl, rfl⟩
  have HS : Hid (spaceT p = ⟨#[]⟩) := Lib.hid (by unfold spaceT; rw [if_neg (by omega)])
  go_enter Tryd.func23, Tryd.ntmps23
  go_wp2
  go_ret
  exact ⟨by rw [HS.out]; rfl, rfl⟩
theorem spaces_any (w : World) : Calls Tryd.prog 11 #[] w fun e w' => e = .returned (.slice (some ⟨w.heap.size, 0, none⟩) 7 7) ∧ In w' (some ⟨w.heap.size, 0, none⟩) 7 7 spT ∧ Below w.heap.size w w' := by
  go_enter Tryd.func11, Tryd.ntmps11
  go_wp2
  go_ret
  exact ⟨rfl, in_new w spT 9 7 rfl, (Below.refl _ _).alloc (Nat.le_refl _) _⟩

set_option maxHeartbeats 1000000 in
/-- A row is the same as itself, wherever both lie. -/
theorem texts_same (l : List ByteArray) (b c off o2 n k1 k2 : Nat) (w : World) (h1 : At w b off l) (h2 : At w c o2 l) (hn : n = l.length) (hc : n ≤ k1) (hc2 : n ≤ k2) (hm : n ≤ 1000000) (h0 : 0 < n) :
    Calls Tryd.prog 24 #[.slice (some ⟨b, off, none⟩) n k1, .slice (some ⟨c, o2, none⟩) n k2] w fun e w' => e = .returned (.bool true) ∧ ∃ d, w' = w.drewN d := by
  have H1 := Lib.hid h1
  have H2 := Lib.hid h2
  have HN := Lib.hid hn
  clear h1 h2 hn
  go_enter Tryd.func24, Tryd.ntmps24
  go_wp2
  go_loopw [5] (fun i w1 => (∃ d, w1 = w.drewN d) ∧ ∃ k : Nat, k ≤ n ∧ i = .int .i64 k) (fun i _ => n - (intOf i).toNat)
  case atStart => exact ⟨⟨0, rfl⟩, 0, by omega, rfl⟩
  case round =>
    obtain ⟨⟨d, rfl⟩, k, hk, rfl⟩ := hrel
    by_cases hlt : k < n
    · have hkl : k < l.length := by have := HN.out; omega
      have e1 : w.cell? ⟨b, off + k, none⟩ = some (.string (l[k]'hkl)) := H1.out k hkl
      have e2 : w.cell? ⟨c, o2 + k, none⟩ = some (.string (l[k]'hkl)) := H2.out k hkl
      have e3 : ((l[k]'hkl).toList == (l[k]'hkl).toList) = true := by rw [beq_iff_eq]
      generalize l[k]'hkl = t at e1 e2 e3
      go_wp2
      go_quiet (fail)
      go_wp2
      go_roundw
      case rel => exact ⟨⟨_, rfl⟩, k + 1, by omega, by go_num⟩
      case measure => simp [intOf]; omega
    · go_wp2
      go_ret
      exact ⟨rfl, d, rfl⟩

theorem info9 : (Tryd.prog.info? 9).map (fun i => (i.zero, i.size, i.bytes)) = some (some (.string ByteArray.empty), 1, 16) := by kernel_rfl
theorem info43 : (Tryd.prog.info? 43).map (·.size) = some kwV.size := by kernel_rfl
theorem idx_kw : ∀ (k : Nat) (h : k < 25) (w : World), (Instr.index 43 (.agg kwV) (.int .i64 (k : Int))).run Tryd.prog w = .ok (.string (kwT[k]'h)) w
  | 0, _ => fun w => (show (Instr.index 43 (.agg kwV) (.int .i64 0)).run Tryd.prog w = .ok (.string (kwT[0]'(by decide))) w by kernel_rfl)
  | 1, _ => fun w => (show (Instr.index 43 (.agg kwV) (.int .i64 1)).run Tryd.prog w = .ok (.string (kwT[1]'(by decide))) w by kernel_rfl)
  | 2, _ => fun w => (show (Instr.index 43 (.agg kwV) (.int .i64 2)).run Tryd.prog w = .ok (.string (kwT[2]'(by decide))) w by kernel_rfl)
  | 3, _ => fun w => (show (Instr.index 43 (.agg kwV) (.int .i64 3)).run Tryd.prog w = .ok (.string (kwT[3]'(by decide))) w by kernel_rfl)
  | 4, _ => fun w => (show (Instr.index 43 (.agg kwV) (.int .i64 4)).run Tryd.prog w = .ok (.string (kwT[4]'(by decide))) w by kernel_rfl)
  | 5, _ => fun w => (show (Instr.index 43 (.agg kwV) (.int .i64 5)).run Tryd.prog w = .ok (.string (kwT[5]'(by decide))) w by kernel_rfl)
  | 6, _ => fun w => (show (Instr.index 43 (.agg kwV) (.int .i64 6)).run Tryd.prog w = .ok (.string (kwT[6]'(by decide))) w by kernel_rfl)
  | 7, _ => fun w => (show (Instr.index 43 (.agg kwV) (.int .i64 7)).run Tryd.prog w = .ok (.string (kwT[7]'(by decide))) w by kernel_rfl)
  | 8, _ => fun w => (show (Instr.index 43 (.agg kwV) (.int .i64 8)).run Tryd.prog w = .ok (.string (kwT[8]'(by decide))) w by kernel_rfl)
  | 9, _ => fun w => (show (Instr.index 43 (.agg kwV) (.int .i64 9)).run Tryd.prog w = .ok (.string (kwT[9]'(by decide))) w by kernel_rfl)
  | 10, _ => fun w => (show (Instr.index 43 (.agg kwV) (.int .i64 10)).run Tryd.prog w = .ok (.string (kwT[10]'(by decide))) w by kernel_rfl)
  | 11, _ => fun w => (show (Instr.index 43 (.agg kwV) (.int .i64 11)).run Tryd.prog w = .ok (.string (kwT[11]'(by decide))) w by kernel_rfl)
  | 12, _ => fun w => (show (Instr.index 43 (.agg kwV) (.int .i64 12)).run Tryd.prog w = .ok (.string (kwT[12]'(by decide))) w by kernel_rfl)
  | 13, _ => fun w => (show (Instr.index 43 (.agg kwV) (.int .i64 13)).run Tryd.prog w = .ok (.string (kwT[13]'(by decide))) w by kernel_rfl)
  | 14, _ => fun w => (show (Instr.index 43 (.agg kwV) (.int .i64 14)).run Tryd.prog w = .ok (.string (kwT[14]'(by decide))) w by kernel_rfl)
  | 15, _ => fun w => (show (Instr.index 43 (.agg kwV) (.int .i64 15)).run Tryd.prog w = .ok (.string (kwT[15]'(by decide))) w by kernel_rfl)
  | 16, _ => fun w => (show (Instr.index 43 (.agg kwV) (.int .i64 16)).run Tryd.prog w = .ok (.string (kwT[16]'(by decide))) w by kernel_rfl)
  | 17, _ => fun w => (show (Instr.index 43 (.agg kwV) (.int .i64 17)).run Tryd.prog w = .ok (.string (kwT[17]'(by decide))) w by kernel_rfl)
  | 18, _ => fun w => (show (Instr.index 43 (.agg kwV) (.int .i64 18)).run Tryd.prog w = .ok (.string (kwT[18]'(by decide))) w by kernel_rfl)
  | 19, _ => fun w => (show (Instr.index 43 (.agg kwV) (.int .i64 19)).run Tryd.prog w = .ok (.string (kwT[19]'(by decide))) w by kernel_rfl)
  | 20, _ => fun w => (show (Instr.index 43 (.agg kwV) (.int .i64 20)).run Tryd.prog w = .ok (.string (kwT[20]'(by decide))) w by kernel_rfl)
  | 21, _ => fun w => (show (Instr.index 43 (.agg kwV) (.int .i64 21)).run Tryd.prog w = .ok (.string (kwT[21]'(by decide))) w by kernel_rfl)
  | 22, _ => fun w => (show (Instr.index 43 (.agg kwV) (.int .i64 22)).run Tryd.prog w = .ok (.string (kwT[22]'(by decide))) w by kernel_rfl)
  | 23, _ => fun w => (show (Instr.index 43 (.agg kwV) (.int .i64 23)).run Tryd.prog w = .ok (.string (kwT[23]'(by decide))) w by kernel_rfl)
  | 24, _ => fun w => (show (Instr.index 43 (.agg kwV) (.int .i64 24)).run Tryd.prog w = .ok (.string (kwT[24]'(by decide))) w by kernel_rfl)
  | k + 25, h => absurd h (by omega)
def kwZ : Array Value := (List.replicate 25 (Value.string ByteArray.empty)).toArray
theorem make_kw (w : World) : (Instr.makeSlice 25 (.int .i64 0) (.int .i64 25)).run Tryd.prog w = .ok (.slice (some ⟨w.heap.size, 0, none⟩) 0 25) (w.alloc (.cells kwZ 9)) := by kernel_rfl
theorem one_new (w : World) (v : Value) (T : TypeId) : ∀ j u, [v][j]? = some u → (w.alloc (.cells #[v] T)).cell? ((⟨w.heap.size, 0, none⟩ : Addr).add j) = some u := by
  intro j u h
  match j, h with
  | 0, h => simp at h; subst h; simp [Addr.add, go_sem]
  | j + 1, h => simp at h
theorem one_cellS (s : ByteArray) : ∀ u ∈ [Value.string s], u.oneCell' = true := by
  intro u h; simp at h; subst h; rfl
/-- A slice of the call's own that reads as these texts. -/
def Own (w : World) (base : Nat) (v : Value) (l : List ByteArray) : Prop := w.ownsRow base 9 1 v l.length (l.map Value.string)
theorem own_of {w : World} {base : Nat} {v : Value} {n : Nat} {xs : List Value} (h : w.ownsRow base 9 1 v n xs) (l : List ByteArray) (hn : n = l.length) (hx : xs = l.map Value.string) : Own w base v l := by
  subst hn hx; exact h
theorem below_row {base : Nat} {w wr w1 : World} {o : Obj} {E n : Nat} {v : Value} {xs : List Value} (hb : Below base w wr) (hz : w.heap.size ≤ wr.heap.size) (ho : wr.ownsRow base E 1 v n xs) (hg : (wr.alloc o).grownBy w1 v.ownBlock) (hbw : base ≤ w.heap.size) : Below base w w1 := by
  refine (hb.alloc (by omega) o).grown hg (by simp; omega) (fun k hk => (ho.lt k hk).1)
theorem in_of_own {w : World} {base : Nat} {v : Value} {l : List ByteArray} (h : Own w base v l) : ∃ p c, v = .slice p l.length c ∧ In w p l.length c l := by
  rcases h.2 with ⟨rfl, h1⟩ | ⟨g, c, cur, rfl, hg, hh, hle, hm, hsz, ht⟩
  · exact ⟨none, 0, by rw [h1], rfl, .inl h1⟩
  · refine ⟨_, c, rfl, rfl, .inr ⟨g, 0, rfl, hle, (Array.getElem?_eq_some_iff.1 hh).1, fun i hi => ?_⟩⟩
    have := World.ownsRow.cells h (g := g) rfl i (.string l[i]) (by simp [hi])
    have ha : ((⟨g, 0, none⟩ : Addr).add i) = ⟨g, 0 + i, none⟩ := by unfold Addr.add; split <;> simp_all
    rw [ha] at this
    exact this
theorem kw_take (k : Nat) (h : k < 25) : kwT.take (k + 1) = kwT.take k ++ [kwT[k]'h] := List.take_succ_eq_append_getElem h

set_option maxRecDepth 10000 in
set_option maxHeartbeats 2000000 in
theorem keywords_any (w : World) (hk : Kw w) : Calls Tryd.prog 25 #[] w fun e w' => ∃ v, e = .returned v ∧ Own w' w.heap.size v kwT ∧ Below w.heap.size w w' := by
  obtain ⟨i0, hi0, hy0, hy1, hy2⟩ := info_parts info9
  have hmk := make_kw w
  have hpos := hk.pos
  obtain ⟨⟨t0, fr, hh⟩, _⟩ := hk
  have hg : (w.alloc (.cells kwZ 9)).heap[0]? = some (.cells kwV t0 fr) := by
    have := ((Below.refl w.heap.size w).alloc (Nat.le_refl _) (.cells kwZ 9)).block 0 hpos
    rw [this]; exact hh
  have HV : Hid (Own (w.alloc (.cells kwZ 9)) w.heap.size (.slice (some ⟨w.heap.size, 0, none⟩) 0 25) []) := Lib.hid (by
    refine ⟨rfl, .inr ⟨w.heap.size, 25, kwZ, rfl, Nat.le_refl _, heap_alloc_new w _, Nat.zero_le _, by decide, rfl, rfl⟩⟩)
  have HH := Lib.hid hg
  clear hh hg
  go_enter Tryd.func25, Tryd.ntmps25
  go_wp2_with (refine wpList_load_row rfl 43 _ rfl 0 rfl t0 _ fr _ HH.out Tryd.underlying43 rfl info43 ?_)
  go_loopw [1, 6] (fun v i wr => ∃ k : Nat, k ≤ 25 ∧ i = .int .i64 k ∧ Own wr w.heap.size v (kwT.take k) ∧ Below w.heap.size w wr) (fun _ i _ => 25 - (intOf i).toNat)
  case atStart => exact ⟨0, by omega, rfl, HV.out, (Below.refl _ _).alloc (Nat.le_refl _) _⟩
  case round =>
    obtain ⟨k, hk, rfl, hown, hbe⟩ := hrel
    have HO := Lib.hid hown
    have hzb := hbe.size
    clear hown HV HH
    by_cases hlt : k < 25
    · have hix := fun w => idx_kw k hlt w
      have HT := Lib.hid (kw_take k hlt)
      have hlen : Hid ((kwT.take k).length = k) := Lib.hid (by rw [List.length_take]; have : kwT.length = 25 := rfl; omega)
      generalize kwT[k]'hlt = t at hix HT
      go_wp2_with (at_builtin; refine wpList_append_own _ rfl _ _ 25 rfl w.heap.size 9 i0 (.string ByteArray.empty) 1 16 Tryd.underlying25 hi0 hy0 hy1 hy2 rfl (by omega) _ _ _ rfl (World.ownsRow.alloc HO.out _) ⟨wr.heap.size, 0, none⟩ 1 1 [Value.string t] rfl rfl (one_new _ _ _) (one_cellS _) (by rw [hlen.out]; unfold maxLen; omega) (by rw [hlen.out]; omega) (by simp; omega) ?_)
      intro v' w1 hown hgrow _
      have HW := Lib.hid (own_of hown (kwT.take (k + 1)) (by rw [HT.out]; simp) (by rw [HT.out]; simp))
      have HB := Lib.hid (below_row hbe hzb HO.out hgrow (Nat.le_refl _))
      clear hown hgrow
      go_wp2_with fail
      go_roundw
      case rel => exact ⟨k + 1, by omega, by go_num, HW.out, HB.out⟩
      case measure => simp [intOf]; omega
    · have e : k = 25 := by omega
      subst e
      go_wp2
      go_ret
      exact ⟨_, rfl, HO.out, hbe⟩
end Go.Proofs.YthknejgdchpaaaaDoor
