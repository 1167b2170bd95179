/-
  Rows of tokens as they lie; kinds, Ints, No.
-/
import Derived.Test.YtnkgmddaodbpcaaDoorFirst
namespace Go.Proofs.YtnkgmddaodbpcaaDoor
open Go.RowKit
set_option linter.unusedVariables false
set_option linter.unusedSimpArgs false

theorem cellsT_length (l : List Tok) : (cellsT l).length = l.length * 3 := by
  induction l with
  | nil => rfl
  | cons x r ih => simp [cellsT, ih]; omega
theorem cellsT_at (l : List Tok) (i : Nat) (h : i < l.length) : (cellsT l)[i * 3]? = some (.int .i64 l[i].k) ∧ (cellsT l)[i * 3 + 1]? = some (.int .i64 (l[i].a : Int)) ∧ (cellsT l)[i * 3 + 2]? = some (.int .i64 (l[i].e : Int)) := by
  induction l generalizing i with
  | nil => simp at h
  | cons x r ih =>
    cases i with
    | zero => simp [cellsT]
    | succ i =>
      have := ih i (by simpa using h)
      simp only [cellsT, show (i + 1) * 3 = i * 3 + 3 from by omega, show i * 3 + 3 + 1 = (i * 3 + 1) + 3 from by omega, show i * 3 + 3 + 2 = (i * 3 + 2) + 3 from by omega, List.getElem?_cons_succ, List.getElem_cons_succ]
      exact this
/-- Tokens lie one behind the other in a block. -/
def TokCells (w : World) (g : Nat) (l : List Tok) : Prop :=
  ∀ i, (h : i < l.length) → w.cell? ⟨g, i * 3, none⟩ = some (.int .i64 l[i].k) ∧ w.cell? ⟨g, i * 3 + 1, none⟩ = some (.int .i64 (l[i].a : Int)) ∧ w.cell? ⟨g, i * 3 + 2, none⟩ = some (.int .i64 (l[i].e : Int))
theorem TokCells.step {w w1 : World} {g : Nat} {l : List Tok} (h : TokCells w g l) (hb : g < w.heap.size) (hw : Below w.heap.size w w1) : TokCells w1 g l := fun i hi => by
  obtain ⟨h0, h1, h2⟩ := h i hi
  exact ⟨(hw.cell (p := ⟨g, _, none⟩) hb).trans h0, (hw.cell (p := ⟨g, _, none⟩) hb).trans h1, (hw.cell (p := ⟨g, _, none⟩) hb).trans h2⟩
theorem ToksAt.open {w : World} {v : Value} {l : List Tok} (h : ToksAt w v l) (hl : 0 < l.length) : ∃ g c, v = .slice (some ⟨g, 0, none⟩) l.length c ∧ l.length ≤ c ∧ c ≤ maxLen ∧ g < w.heap.size ∧ TokCells w g l := by
  obtain ⟨base, h⟩ := h
  rcases h.2 with ⟨_, h0⟩ | ⟨g, cap, cur, rfl, hg, hh, hc, hm, hs, ht⟩
  · omega
  · refine ⟨g, cap, rfl, hc, hm, lt_of_block hh, fun i hi => ?_⟩
    have hx := cellsT_at l i hi
    have e := fun j (hj : j < l.length * 3) => h.cellAt j hj
    exact ⟨(e _ (by omega)).trans hx.1, (e _ (by omega)).trans hx.2.1, (e _ (by omega)).trans hx.2.2⟩
theorem no_any (x : Int) (w : World) : Calls Tryd.prog 10 #[.int .i64 x] w fun e w' => e = .returned (.int .i64 x) ∧ w = w' := by
  go_enter Tryd.func10, Tryd.ntmps10
  go_wp2
  go_ret
  exact ⟨rfl, rfl⟩
theorem info3 : (Tryd.prog.info? 3).map (fun i => (i.zero, i.size, i.bytes)) = some (some (.int .i64 0), 1, 8) := by kernel_rfl
def kindCells (l : List Tok) : List Value := l.map fun t => .int .i64 t.k
set_option maxHeartbeats 1000000 in
theorem kinds_any (l : List Tok) (g c : Nat) (w : World) (hat : TokCells w g l) (hg : g < w.heap.size) (hc : l.length ≤ c) (hl : l.length ≤ 1000000) :
    Calls Tryd.prog 13 #[.slice (some ⟨g, 0, none⟩) l.length c] w fun e w' => ∃ v, e = .returned v ∧ w'.ownsRow w.heap.size 3 1 v l.length (kindCells l) ∧ Below w.heap.size w w' := by
  obtain ⟨i0, hi0, hy0, hy1, hy2⟩ := info_parts info3
  have HA := Lib.hid hat
  clear hat
  go_enter Tryd.func13, Tryd.ntmps13
  go_wp2
  go_loopw [3, 8] (fun v i wr => ∃ k : Nat, k ≤ l.length ∧ i = .int .i64 k ∧ wr.ownsRow w.heap.size 3 1 v k (kindCells (l.take k)) ∧ Below w.heap.size w wr) (fun _ i _ => l.length - (intOf i).toNat)
  case atStart => exact ⟨0, by omega, rfl, World.ownsRow_nil _ _ _ _, Below.refl _ _⟩
  case round =>
    obtain ⟨k, hk, rfl, hown, hbe⟩ := hrel
    by_cases hlt : k < l.length
    · have hcc := HA.out.step hg hbe k hlt
      have c0 := hcc.1
      have c1 := hcc.2.1
      have c2 := hcc.2.2
      have HT : Hid (l.take (k + 1) = l.take k ++ [l[k]]) := Lib.hid (List.take_succ_eq_append_getElem hlt)
      have hsz := hbe.size
      generalize l[k] = t at *
      clear hcc
      go_wp2_with (at_builtin; refine wpList_append_own _ rfl (.tmp 12) (.tmp 15) 35 rfl w.heap.size 3 i0 (.int .i64 0) 1 8 Tryd.underlying35 hi0 hy0 hy1 hy2 rfl (by omega) u3 k (kindCells (l.take k)) rfl ((hown.alloc _).alloc _) ⟨wr.heap.size + 1, 0, none⟩ 1 1 [.int .i64 t.k] rfl rfl (World.news_of_block (cs := #[.int .i64 t.k]) (t := 3) (fr := (0, 0)) (by have := heap_alloc_new (wr.alloc (.cells #[.int .i64 t.k, .int .i64 (t.a : Int), .int .i64 (t.e : Int)] 26)) (.cells #[.int .i64 t.k] 3); simpa using this)) (by simp [Value.oneCell']) (by unfold maxLen; omega) (by omega) (by simp; omega) ?_)
      intro v' w2 hown2 hgrow _
      have HO : Hid (w2.ownsRow w.heap.size 3 1 v' (k + 1) (kindCells (l.take (k + 1)))) := Lib.hid (by
        rw [HT.out]
        have e : kindCells (l.take k ++ [t]) = kindCells (l.take k) ++ [.int .i64 t.k] := by simp [kindCells]
        rw [e]; exact hown2)
      have HB := Lib.hid (((hbe.alloc hsz _).alloc (by simp; omega) _).grown hgrow (by simp; omega) (fun j hj => (hown.lt j hj).1))
      clear hown2 hgrow hown c0 c1 c2
      go_wp2_with fail
      go_roundw
      case rel => exact ⟨k + 1, by omega, by go_num, HO.out, HB.out⟩
      case measure => simp [intOf]; omega
    · have hkl : k = l.length := by omega
      have HO : Hid (wr.ownsRow w.heap.size 3 1 u3 l.length (kindCells l)) := Lib.hid (by rw [hkl, List.take_length] at hown; exact hown)
      have HB := Lib.hid hbe
      clear hown hbe
      go_wp2_with fail
      go_returns
      exact ⟨_, rfl, HO.out, HB.out⟩
/-- Numbers lie one behind the other in a block. -/
def IntCells (w : World) (g : Nat) (l : List Int) : Prop := ∀ i, (h : i < l.length) → w.cell? ⟨g, i, none⟩ = some (.int .i64 l[i])
set_option maxHeartbeats 1000000 in
theorem ints_same (l : List Int) (g g' c c' : Nat) (w : World) (ha : IntCells w g l) (hb : IntCells w g' l) (hc : l.length ≤ c) (hc' : l.length ≤ c') (hl : l.length ≤ 1000000) :
    Calls Tryd.prog 12 #[.slice (some ⟨g, 0, none⟩) l.length c, .slice (some ⟨g', 0, none⟩) l.length c'] w fun e w' => e = .returned (.bool true) ∧ ∃ n, w' = w.drewN n := by
  have HA := Lib.hid ha
  have HB := Lib.hid hb
  clear ha hb
  go_enter Tryd.func12, Tryd.ntmps12
  go_wp2
  go_loopw [13] (fun i wr => ∃ k n : Nat, k ≤ l.length ∧ i = .int .i64 k ∧ wr = w.drewN n) (fun i _ => l.length - (intOf i).toNat)
  case atStart => exact ⟨0, 0, by omega, rfl, rfl⟩
  case round =>
    obtain ⟨k, n, hk, rfl, rfl⟩ := hrel
    by_cases hlt : k < l.length
    · have c0 : w.cell? ⟨g, k, none⟩ = some (.int .i64 l[k]) := HA.out k hlt
      have c1 : w.cell? ⟨g', k, none⟩ = some (.int .i64 l[k]) := HB.out k hlt
      generalize l[k] = t at *
      go_wp2
      go_quiet (fail)
      go_wp2
      go_roundw
      case rel => exact ⟨k + 1, _, by omega, by go_num, rfl⟩
      case measure => simp [intOf]; omega
    · have hkl : k = l.length := by omega
      go_wp2
      go_ret
      exact ⟨rfl, n, rfl⟩
end Go.Proofs.YtnkgmddaodbpcaaDoor
