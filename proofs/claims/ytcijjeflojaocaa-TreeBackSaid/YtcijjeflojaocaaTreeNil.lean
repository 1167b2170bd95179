/-
  TreeNil: the walk.
-/
import Derived.Test.YtcijjeflojaocaaAlive
import Derived.Test.YtcijjeflojaocaaSame
namespace Go.Proofs.Ytcijjeflojaocaa
open Go.RowKit
set_option linter.unusedVariables false
set_option linter.unusedSimpArgs false

/-- The empty branch. -/
def zB : Br := .mk ⟨0, 0, 0, 0, none, 0, 0, [], none, 0, 0⟩ []
theorem zB_lies (w : World) : zB.Lies w := ⟨In.nil _ _ _ _, ⟨rfl, .inl rfl⟩, trivial⟩
theorem zB_fits : zB.Fits := by simp [zB, Br.Fits, FitsAll]
theorem zB_same (w : World) : Calls Try.prog 19 #[.agg #[.int .i64 0, .int .i64 0, .int .i64 0, .int .i64 0, .slice none 0 0, .slice none 0 0], .agg #[.int .i64 0, .int .i64 0, .int .i64 0, .int .i64 0, .slice none 0 0, .slice none 0 0]] w fun e w' => e = .returned (.bool true) ∧ Below w.heap.size w w' :=
  refSame_any zB zB w (zB_lies w) (zB_lies w) zB_fits (by show 1 ≤ 1000; omega)
theorem treeNil_any (n : Int) (w : World) : Calls Try.prog 7 #[.int .i64 n] w fun e w' => e = .returned (.bool true) ∧ Below w.heap.size w w' := by
  have hno := fun w1 => noNum_nil n w1
  have hno0 := fun w1 => noNum_nil 0 w1
  have HX := Lib.hid (knot_no w (hno w))
  go_enter Try.func7, Try.ntmps7
  go_wp2_with fail
  refine HX.out.mono ?_
  rintro e w1 ⟨rfl, hb1⟩
  have HB1 := Lib.hid (hb1.alloc hb1.size (.cells #[.int .i64 0, .int .i64 0, .int .i64 0, .int .i64 0, .int .i64 0, .int .i64 0, .int .i64 0] 34))
  clear hb1
  go_wp2_with fail
  refine (len_nil _).mono ?_
  rintro e u ⟨rfl, rfl⟩
  generalize hW : w1.alloc (.cells #[.int .i64 0, .int .i64 0, .int .i64 0, .int .i64 0, .int .i64 0, .int .i64 0, .int .i64 0] 34) = w2 at *
  clear hW
  have HX := Lib.hid (names_no w2 (hno w2))
  go_wp2_with fail
  refine HX.out.mono ?_
  rintro e u ⟨rfl, rfl⟩
  have HX := Lib.hid (kids_no w2 (hno w2))
  go_wp2_with fail
  refine HX.out.mono ?_
  rintro e u ⟨rfl, rfl⟩
  have HX := Lib.hid (deep_no w2 (hno w2))
  go_wp2_with fail
  refine HX.out.mono ?_
  rintro e u ⟨rfl, rfl⟩
  have HX := Lib.hid (walk_no w2 (hno w2))
  go_wp2_with fail
  refine HX.out.mono ?_
  rintro e u ⟨rfl, rfl⟩
  have HX := Lib.hid (path_no w2 (hno w2))
  go_wp2_with fail
  refine HX.out.mono ?_
  rintro e u ⟨rfl, rfl⟩
  have HX := Lib.hid (within_no n w2 (hno0 w2))
  go_wp2_with fail
  refine HX.out.mono ?_
  rintro e u ⟨rfl, rfl⟩
  have HX := Lib.hid (branch_no w2 (hno w2))
  go_wp2_with fail
  refine HX.out.mono ?_
  rintro e w3 ⟨rfl, hb3⟩
  have HB3 := Lib.hid (HB1.out.trans (hb3.mono HB1.out.size))
  clear hb3
  have HX := Lib.hid (zB_same w3)
  go_wp2_with fail
  refine HX.out.mono ?_
  rintro e w4 ⟨rfl, hb4⟩
  have HB4 := Lib.hid (HB3.out.trans (hb4.mono HB3.out.size))
  clear hb4
  have HX := Lib.hid (alive_any w4)
  go_wp2_with fail
  refine HX.out.mono ?_
  rintro e w5 ⟨rfl, hb5⟩
  have HB5 := Lib.hid (HB4.out.trans (hb5.mono HB4.out.size))
  clear hb5
  go_wp2_with fail
  go_ret
  exact ⟨by first | trivial | rfl, HB5.out⟩
end Go.Proofs.Ytcijjeflojaocaa
