/-
  From the rows' condition: the array of keywords lies where it was laid.
-/
import Derived.Test.YtkjgkchdkeggoaaGreatDoorWords
import Derived.LaidMore
import Derived.OpenShut
import Derived.MakeChecks
import Derived.Lib.LaidTab
import Derived.Stop.Joined
namespace Go.Proofs.YtkjgkchdkeggoaaGreatDoor
open Go.ChangeShapes Go.WideShapes Go.ChangeAt Go.RowKit
set_option linter.unusedVariables false

theorem gNum : Tryz.prog.globalNamed "oriel/name.keywords" = some 0 := by kernel_rfl
theorem gType : (Tryz.prog.globals[0]?).map (·.type) = some 103 := by kernel_rfl

/-- An array of texts that reads as these texts holds them, cell for cell. -/
theorem cells_of_texts {H : Type} {enc : TypeId × Value → H} {w : World} {base : Nat} {sp : Nat → Bool} {held : Bool} {fuel : Nat} {cs : List Value} {zs : List ByteArray} {p : List MemPlace}
    (h : DataW.trod enc Tryz.prog w base sp held fuel 103 cs = some (.agg (zs.map fun z => .lit (.string z.data.toList)), p)) : cs = zs.map Value.string := by
  obtain ⟨xs, m, _, hx, hl, hn, hi⟩ := DataW.trod_array Tryz.underlying103 h
  have c9 : Tryz.prog.cellsOf 9 = 1 := by kernel_rfl
  have c43 : Tryz.prog.cellsOf 103 = 25 := by kernel_rfl
  rw [c43] at hl
  rw [c9] at hi
  have hxs : xs.map (·.1) = zs.map fun z => (DataW.lit (.string z.data.toList) : DataW H) := by
    have := congrArg Prod.fst hx
    simp only [DataW.agg.injEq] at this
    exact this.symm
  have hz : zs.length = 25 := by have := congrArg List.length hxs; simp at this; omega
  apply List.ext_getElem?
  intro i
  by_cases hlt : i < 25
  · have h1 := hi i hlt
    rw [List.getElem?_eq_getElem (show i < xs.length by omega)] at h1
    obtain ⟨s, hc, hd, _⟩ := DataW.trod_string Tryz.underlying9 h1
    have e1 : cs[i]? = some (.string s) := by
      have := congrArg (·[0]?) hc
      simpa [List.getElem?_take, List.getElem?_drop] using this
    have e2 : (xs.map (·.1))[i]? = some (DataW.lit (.string s.data.toList) : DataW H) := by
      rw [List.getElem?_map, List.getElem?_eq_getElem (show i < xs.length by omega)]
      simp [hd]
    rw [hxs] at e2
    simp only [List.getElem?_map, Option.map_eq_some_iff, DataW.lit.injEq, Lit.string.injEq] at e2
    obtain ⟨z, hz1, hz2⟩ := e2
    have : z = s := by rw [← Lib.mk_data z, ← Lib.mk_data s, hz2]
    rw [e1, List.getElem?_map, hz1, this]; rfl
  · rw [List.getElem?_eq_none (by omega), List.getElem?_eq_none (by simp; omega)]

theorem kw_of_laid {W : World} (h : laidMetH Tryz.prog Rows.parseDeepRow.laid W) : Kw W := by
  rw [MakeChecks.laidMetH_plain _ _ _ (by kernel_rfl)] at h
  obtain ⟨ps, ⟨g3, t3, cs3, f3, p3, q3, hg3, ht3, hv3, hd3, _, _⟩, _, _⟩ := h
  obtain rfl := Option.some.inj (gNum.symm.trans hg3)
  obtain rfl := Option.some.inj (gType.symm.trans ht3)
  have hc := cells_of_texts (zs := kwT) hd3
  have hv : W.var? Tryz.prog "oriel/name.keywords" = some cs3 := hv3
  simp only [World.var?, gNum, Option.bind_some] at hv
  split at hv
  · rename_i cs t fr hcell
    have e : cs = cs3 := Option.some.inj hv
    have e2 : cs3 = kwV := by unfold kwV; rw [← hc]
    rw [e, e2] at hcell
    exact Kw.of hcell
  · cases hv
theorem met_at (os : Os) (args : Array Value) : laidMetH Tryz.prog Rows.parseDeepRow.laid ((World.doorLaid Tryz.prog 14 os).forCall (fun _ _ => 0) ⟨#[], args, []⟩).memory :=
  laidMetH_of_parts3 (fuel := 8) (laidMet_of_run' 8 (by kernel_rfl) (by kernel_rfl)) (by kernel_rfl) (by kernel_rfl)
end Go.Proofs.YtkjgkchdkeggoaaGreatDoor
