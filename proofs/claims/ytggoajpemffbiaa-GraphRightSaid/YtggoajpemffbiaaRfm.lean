/-
  The document's family of an occurrence (R.Family), walked.
-/
import Derived.Test.YtggoajpemffbiaaFew
import Derived.Lib.QuietBelow
import Derived.BigQuiet
namespace Go.Proofs.Ytggoajpemffbiaa
open Go.RowKit
set_option maxRecDepth 20000
set_option linter.unusedVariables false
set_option linter.unusedSimpArgs false

theorem meets_swap (L : List P2) (a b : Int) : inI (meets L a (L.length + 1)) b = inI (meets L b (L.length + 1)) a := bool_iff (by rw [meets_iff, meets_iff]; exact ⟨fun h => h.symm, fun h => h.symm⟩)
theorem boxg {w : World} {B : Nat} {a b c : Value} (h : w.heap[B]? = some (.cells #[a, b, c] 25 (0, 0))) : w.cell? ⟨B, 0, none⟩ = some a ∧ w.cell? ⟨B, 1, none⟩ = some b ∧ w.cell? ⟨B, 2, none⟩ = some c := ⟨(cellH h 0).trans rfl, (cellH h 1).trans rfl, (cellH h 2).trans rfl⟩
set_option maxHeartbeats 8000000 in
theorem rfamily_any (g : Gr) (E : List Int) (L : List P2) (V : List Int) (occ : Int) (w : World) (h : GrIn w g E L V) (hn : g.ne ≤ 100) (hln : g.nl ≤ 60) :
    Calls Try.prog 13 #[g.v, .int .i64 occ] w fun e w' => ∃ v, e = .returned v ∧ OwnI w' w.heap.size v (famO E L occ) ∧ Below w.heap.size w w' := by
  obtain ⟨i3, hi3, hz0, hz1, hz2⟩ := info_parts info3
  have hle : g.ne = E.length := h.e.1
  have b1 : Below w.heap.size w (w.alloc (.cells #[.slice g.qe g.ne g.ce, .slice g.ql g.nl g.cl, .slice g.qv g.nv g.cv] 25)) := (Below.refl _ _).alloc (Nat.le_refl _) _
  have e1 := heap_new w (.cells #[.slice g.qe g.ne g.ce, .slice g.ql g.nl g.cl, .slice g.qv g.nv g.cv] 25)
  have HB1 := Lib.hid b1
  by_cases hin : 0 ≤ occ ∧ occ < E.length
  · obtain ⟨a, ha⟩ : ∃ a, E[occ.toNat]? = some a := ⟨_, List.getElem?_eq_getElem (by omega)⟩
    have HF : Hid (famO E L occ = famN E L a) := Lib.hid (by unfold famO; rw [if_pos hin, ha])
    obtain ⟨i, hi⟩ : ∃ i : Nat, occ = (i : Int) := ⟨occ.toNat, by omega⟩
    subst hi
    have hin2 : i < g.ne := by omega
    simp only [Int.toNat_natCast] at ha
    have HA := Lib.hid ha
    have HE := Lib.hid h.e
    have HL := Lib.hid h.l
    have HLE := Lib.hid hle
    simp only [Gr.v]
    have r1 : (0 : Int) ≤ (i : Int) := by omega
    have r2 : (i : Int) < (g.ne : Int) := by omega
    have r3 : ¬ (g.ne : Int) ≤ (i : Int) := by omega
    have r4 : ¬ (i : Int) < 0 := by omega
    clear h hle hin ha
    go_enter Try.func13, Try.ntmps13
    go_upto_region 2 with fail
    obtain ⟨W1, hW1⟩ : ∃ W1, W1 = w.alloc (.cells #[.slice g.qe g.ne g.ce, .slice g.ql g.nl g.cl, .slice g.qv g.nv g.cv] 25) := ⟨_, rfl⟩
    rw [← hW1] at e1 HB1 b1 ⊢
    obtain ⟨B, hB⟩ : ∃ B, B = w.heap.size := ⟨_, rfl⟩
    rw [← hB] at e1 ⊢
    have HX := Lib.hid e1
    obtain ⟨c0, c1, c2⟩ := boxg e1
    clear hB hW1 b1 e1
    go_wp2_with fail
    clear c0 c1 c2
    go_loopw [5, 6] (fun v c wr => ∃ j : Nat, j ≤ g.ne ∧ c = .int .i64 j ∧ Hid (OwnI wr W1.heap.size v (selN (fun i => match E[i]? with | some x => inI (meets L a (L.length + 1)) x | none => false) j)) ∧ Hid (Below W1.heap.size W1 wr)) (fun _ c _ => g.ne - (intOf c).toNat)
    case atStart => exact ⟨0, by omega, rfl, Lib.hid (OwnI.nil _ _), Lib.hid (Below.refl _ _)⟩
    case round =>
      obtain ⟨j, hj, rfl, HO, HBw⟩ := hrel
      have HBW := Lib.hid (HB1.out.trans (HBw.out.mono HB1.out.size))
      have HXw := Lib.hid (heap_step HX.out HBw.out)
      obtain ⟨c0, c1, c2⟩ := boxg HXw.out
      by_cases hlt : j < g.ne
      · obtain ⟨hxx, h0 | ⟨ge, oe, hqe, hce, hge, hate⟩⟩ := HE.out.step HBW.out
        · omega
        obtain ⟨x, hx⟩ : ∃ x, E[j]? = some x := ⟨_, List.getElem?_eq_getElem (by omega)⟩
        have v0 := hate j x hx
        have v1 := hate i a HA.out
        rw [hqe] at c0 HXw
        have HS : Hid (selN (fun i => match E[i]? with | some x => inI (meets L a (L.length + 1)) x | none => false) (j + 1) = selN (fun i => match E[i]? with | some x => inI (meets L a (L.length + 1)) x | none => false) j ++ (if inI (meets L x (L.length + 1)) a = true then [(j : Int)] else [])) := Lib.hid (by
          rw [selN_succ]; simp only [hx, meets_swap L a x]; cases inI (meets L x (L.length + 1)) a <;> rfl)
        have HLN : Hid ((selN (fun i => match E[i]? with | some x => inI (meets L a (L.length + 1)) x | none => false) j).length ≤ 100) := Lib.hid (by have := selN_len (fun i => match E[i]? with | some x => inI (meets L a (L.length + 1)) x | none => false) j; omega)
        have s1 : (0 : Int) ≤ (j : Int) := by omega
        have s2 : (j : Int) < (g.ne : Int) := by omega
        have HLK : Hid (∀ W, Below wr.heap.size wr W → Calls Try.prog 18 #[.slice g.ql g.nl g.cl, .int .i64 x, .int .i64 a] W fun e w' => e = .returned (.bool (inI (meets L x (L.length + 1)) a)) ∧ Below wr.heap.size wr w') := Lib.hid fun W hW => (refLinked_any g.ql g.nl g.cl L x a W ((HL.out.step HBW.out).step hW) hln).mono fun e w' q => ⟨q.1, hW.trans (q.2.mono hW.size)⟩
        have HKP : Hid (∀ W, Below wr.heap.size wr W → W.cell? ⟨B, 0, none⟩ = some (.slice (some ⟨ge, oe, none⟩) g.ne g.ce) ∧ W.cell? ⟨B, 1, none⟩ = some (.slice g.ql g.nl g.cl) ∧ W.cell? ⟨ge, oe + j, none⟩ = some (.int .i64 x) ∧ W.cell? ⟨ge, oe + i, none⟩ = some (.int .i64 a)) := Lib.hid fun W hW => by
          obtain ⟨k0, k1, _⟩ := boxg (heap_step HXw.out hW)
          exact ⟨k0, k1, (hW.cell (p := ⟨ge, oe + j, none⟩) hge).trans v0, (hW.cell (p := ⟨ge, oe + i, none⟩) hge).trans v1⟩
        clear hate hx hxx hlt hqe hce
        generalize inI (meets L x (L.length + 1)) a = b at *
        go_upto_region 7 with fail
        go_region_held3 (fun w' => w'.cell? ⟨B, 0, none⟩ = some (.slice (some ⟨ge, oe, none⟩) g.ne g.ce) ∧ w'.cell? ⟨B, 1, none⟩ = some (.slice g.ql g.nl g.cl) ∧ w'.cell? ⟨ge, oe + j, none⟩ = some (.int .i64 x) ∧ w'.cell? ⟨ge, oe + i, none⟩ = some (.int .i64 a)) (first | exact ⟨c0, c1, v0, v1⟩ | exact HKP.out _ (Below.refl _ _).drew | exact HKP.out _ HBX.out | exact HKP.out _ HBX.out.drew | go_keep) (first | (go_at_call 18; (with_reducible refine Calls.mono (HLK.out _ (by first | exact Below.refl _ _ | exact (Below.refl _ _).drew)) ?_); rintro e w3 ⟨rfl, hbx⟩; have HBX := Lib.hid hbx; clear hbx))
        all_goals (
          have hbz := HBX.out.size
          have hbw := HBw.out.size
          have HO3 := Lib.hid (HO.out.step HBX.out)
          have HB3 := Lib.hid (HBw.out.trans (HBX.out.mono hbw))
          clear HO HBw HBX
          cases b
          · have HO4 : Hid (OwnI w3 W1.heap.size u5 (selN (fun i => match E[i]? with | some x => inI (meets L a (L.length + 1)) x | none => false) (j + 1))) := Lib.hid (by rw [HS.out]; simpa using HO3.out)
            go_wp2_with fail
            go_roundw
            case rel => exact ⟨j + 1, by omega, by go_num, HO4, HB3⟩
            case measure => simp [intOf]; omega
          · have HOA : Hid ((w3.alloc (.cells #[.int .i64 j] 3)).ownsRow W1.heap.size 3 1 u5 (selN (fun i => match E[i]? with | some x => inI (meets L a (L.length + 1)) x | none => false) j).length ((selN (fun i => match E[i]? with | some x => inI (meets L a (L.length + 1)) x | none => false) j).map (Value.int .i64))) := Lib.hid (World.ownsRow.alloc HO3.out _)
            have hz3 : W1.heap.size ≤ w3.heap.size := HB3.out.size
            have HS2 := Lib.hid (HS.out.trans (by rw [if_pos rfl]))
            clear HS
            generalize selN (fun i => match E[i]? with | some x => inI (meets L a (L.length + 1)) x | none => false) j = s0 at *
            go_wp2_with (at_builtin; refine wpList_append_own _ rfl _ _ 22 rfl W1.heap.size 3 i3 (.int .i64 0) 1 8 Try.underlying22 hi3 hz0 hz1 hz2 rfl (by omega) _ _ _ rfl HOA.out ⟨w3.heap.size, 0, none⟩ 1 1 [.int .i64 j] rfl rfl (one_new _ _ _) (one_cell _ _) (by have := HLN.out; unfold maxLen; omega) (by have := HLN.out; omega) (by simp; omega) ?_; intro v' w4 hown hgrow hnil; have HO2 : Hid (OwnI w4 W1.heap.size v' (selN (fun i => match E[i]? with | some x => inI (meets L a (L.length + 1)) x | none => false) (j + 1))) := Lib.hid (by rw [HS2.out]; exact OwnI.snoc hown); have HB4 := Lib.hid ((HB3.out.alloc hz3 _).grown hgrow (by simp; omega) (fun j hj => (World.ownsRow.lt HOA.out j hj).1)); clear hown hgrow hnil)
            go_roundw
            case rel => exact ⟨j + 1, by omega, by go_num, HO2, HB4⟩
            case measure => simp [intOf]; omega)
      · have hjn : j = g.ne := by omega
        have HFN : Hid (OwnI wr W1.heap.size u5 (famO E L (i : Int))) := Lib.hid (by have := HO.out; rw [hjn, HLE.out] at this; rw [HF.out]; exact this)
        clear hjn hj
        go_wp2_with fail
        go_ret
        exact ⟨_, rfl, HFN.out.base HB1.out.size, HBW.out⟩
  · have HF : Hid (famO E L occ = []) := Lib.hid (by unfold famO; rw [if_neg hin])
    simp only [Gr.v]
    rw [← hle] at hin
    clear h hle b1 e1
    by_cases h1 : occ < 0
    · clear hin
      go_enter Try.func13, Try.ntmps13
      go_wp2_with fail
      go_ret
      exact ⟨_, rfl, by rw [HF.out]; exact OwnI.nil _ _, HB1.out⟩
    · have h2 : (g.ne : Int) ≤ occ := by omega
      clear hin
      go_enter Try.func13, Try.ntmps13
      go_wp2_with fail
      go_ret
      exact ⟨_, rfl, by rw [HF.out]; exact OwnI.nil _ _, HB1.out⟩
end Go.Proofs.Ytggoajpemffbiaa
