/-
  A branch is laid: the walk.
-/
import Derived.Test.YtcijjeflojaocaaLay
import Derived.Test.YtcijjeflojaocaaTill
namespace Go.Proofs.Ytcijjeflojaocaa
open Go.RowKit
set_option linter.unusedVariables false
set_option linter.unusedSimpArgs false

mutual
/-- Each part's names are of a length that can be copied. -/
def Br.Fits : Br → Prop
  | .mk h ks => h.nn * 8 ≤ 140737488355328 ∧ FitsAll ks
def FitsAll : List Br → Prop
  | [] => True
  | b :: r => b.Fits ∧ FitsAll r
end
theorem fitsAll_iff (ks : List Br) : FitsAll ks ↔ ∀ b ∈ ks, b.Fits := by
  induction ks with
  | nil => simp [FitsAll]
  | cons x r ih => simp [FitsAll, ih]

theorem own_form {w : World} {base E size n : Nat} {v : Value} {xs : List Value} (h : w.ownsRow base E size v n xs) : ∃ p c, v = .slice p n c := by
  rcases h.2 with ⟨rfl, h0⟩ | ⟨g, c, cur, rfl, _⟩
  · exact ⟨none, 0, by rw [h0]⟩
  · exact ⟨_, c, rfl⟩

set_option maxHeartbeats 4000000 in
set_option maxRecDepth 10000 in
theorem lay_any {wb : World} {B T Bt Bl : Nat} (hT : wb.heap.size ≤ T) (hTB : T < B) (hBt : Bt < B) (hBl : Bl < B) (h1 : Bt ≠ T) (h2 : Bl ≠ T) (hwb : wb.heap.size ≤ B) (b : Br) :
    ∀ (up deep : Int) (old : List Kn) (pb po : Nat) (w : World), St wb B T Bt Bl w old → BrAt wb pb po b.h → pb < wb.heap.size → b.Lies wb → b.Fits → old.length + b.size ≤ 1000 → 0 ≤ deep → deep + b.size ≤ 2000 →
    Calls Try.prog 31 #[.pointer (some ⟨pb, po, none⟩), .int .i64 up, .int .i64 deep, .pointer (some ⟨Bt, 0, none⟩), .pointer (some ⟨Bl, 0, none⟩)] w fun e w' =>
      e = .returned (.int .i64 (old.length : Int)) ∧ St wb B T Bt Bl w' (old ++ (b.flat up deep (-1) 0 old.length).map Ent.kn) := by
  obtain ⟨i0, hi0, hy0, hy1, hy2⟩ := info_parts info58
  induction b using Br.ind with
  | hP h ks ih =>
    intro up deep old pb po w hst hat hpb hl hfit hsz hdeep hdeep2
    rw [← partly_end h ks up deep old.length 0]
    simp only [Br.size] at hsz hdeep2
    obtain ⟨hnames, hkids, hall⟩ := (lies_iff _ _).1 hl
    simp only [Br.Fits, fitsAll_iff] at hfit
    simp only [Br.h, Br.ks] at hnames hkids hall hat
    obtain ⟨hk, hm, hf, ht, np, nn, nc, ns, kp, kn, kc⟩ := h
    obtain ⟨hfit1, hfit2⟩ := hfit
    have hkn : kn = ks.length := hkids.1
    subst hkn
    have hlen := sizes_len ks
    obtain ⟨below, hsize, bt, bl, d, v, hd, tt, tf, own, names⟩ := hst
    have hbs := below.size
    obtain ⟨p, c, rfl⟩ := own_form own
    have hatw := fun (w2 : World) (hb2 : Below wb.heap.size wb w2) => hat.step hpb hb2
    obtain ⟨a0, a1, a2, a3, a4, a5⟩ := hatw w below
    have hin := hnames.step below
    simp only at hin a0 a1 a2 a3 a4 a5
    have HN := Lib.hid names
    have HO := Lib.hid own
    have HB := Lib.hid below
    have HD := Lib.hid hd
    have HIN := Lib.hid hin
    have HAT := Lib.hid hatw
    have HK := Lib.hid hkids
    have HL := Lib.hid hall
    have HI := Lib.hid ih
    have HF2 := Lib.hid hfit2
    have hne1 : T ≠ Bt := fun e => h1 e.symm
    have hne2 : T ≠ Bl := fun e => h2 e.symm
    clear names own below hd hin hatw hkids hall ih hfit2 hat hl hnames
    have htw : T < w.heap.size := by omega
    have hbtw : Bt < w.heap.size := by omega
    have hpw : pb < w.heap.size := by omega
    have hTpb : T ≠ pb := by omega
    go_enter Try.func31, Try.ntmps31
    go_wp2_with fail
    refine wp_region_till (fun w' => w'.cell? ⟨Bt, 0, none⟩ = some (.pointer (some ⟨T, 0, none⟩)) ∧ w'.cell? ⟨T, 0, none⟩ = some (.slice p old.length c) ∧ w'.cell? ⟨pb, po, none⟩ = some (.int .i64 hk) ∧ w'.cell? ⟨pb, po + 1, none⟩ = some (.int .i64 hm) ∧ w'.cell? ⟨pb, po + 2, none⟩ = some (.int .i64 hf) ∧ w'.cell? ⟨pb, po + 3, none⟩ = some (.int .i64 ht) ∧ w'.cell? ⟨pb, po + 4, none⟩ = some (.slice np nn nc)) 34 (by kernel_rfl) ?_
    have hHeld : (fun w' : World => w'.cell? ⟨Bt, 0, none⟩ = some (.pointer (some ⟨T, 0, none⟩)) ∧ w'.cell? ⟨T, 0, none⟩ = some (.slice p old.length c) ∧ w'.cell? ⟨pb, po, none⟩ = some (.int .i64 hk) ∧ w'.cell? ⟨pb, po + 1, none⟩ = some (.int .i64 hm) ∧ w'.cell? ⟨pb, po + 2, none⟩ = some (.int .i64 hf) ∧ w'.cell? ⟨pb, po + 3, none⟩ = some (.int .i64 ht) ∧ w'.cell? ⟨pb, po + 4, none⟩ = some (.slice np nn nc)) w.drew := ⟨bt, tt, a0, a1, a2, a3, a4⟩
    refine wpTill_take 0 [32, 33, 34] (oi := { dst := some 18, op := Op.load 28 (Operand.tmp 3), type := 28, pos := "tree.go:31", after := #[], guard := none }) (v := ?v0) rfl (by kernel_rfl) (by kernel_rfl) (by kernel_rfl) (by kernel_rfl) (fun _ _ _ h => h) (Or.inl ⟨by rfl, ?hy0⟩) (by assumption) ?rest0
    case hy0 => (intro w' hSw; (try dsimp only at hSw); go_simp; try with_reducible rfl)
    case' rest0 => (try simp only [Act.put, List.setIfInBounds_toArray, List.set_cons_zero, List.set_cons_succ])
    refine wpTill_take 1 [2, 3, 4, 31, 34] (oi := { dst := some 19, op := Op.load 28 (Operand.tmp 3), type := 28, pos := "tree.go:31", after := #[], guard := none }) (v := ?v1) rfl (by kernel_rfl) (by kernel_rfl) (by kernel_rfl) (by kernel_rfl) (fun _ _ _ h => h) (Or.inl ⟨by rfl, ?hy1⟩) (by assumption) ?rest1
    case hy1 => (intro w' hSw; (try dsimp only at hSw); go_simp; try with_reducible rfl)
    case' rest1 => (try simp only [Act.put, List.setIfInBounds_toArray, List.set_cons_zero, List.set_cons_succ])
    refine wpTill_take 2 [3, 4, 31, 34] (oi := { dst := some 20, op := Op.nilCheck (Operand.tmp 19), type := 0, pos := "tree.go:31", after := #[{ on := 1, ground := Ground.data }], guard := none }) (v := ?v2) rfl (by kernel_rfl) (by kernel_rfl) (by kernel_rfl) (by kernel_rfl) (fun _ _ _ h => h) (Or.inl ⟨by rfl, ?hy2⟩) (by assumption) ?rest2
    case hy2 => (intro w' hSw; (try dsimp only at hSw); go_simp; try with_reducible rfl)
    case' rest2 => (try simp only [Act.put, List.setIfInBounds_toArray, List.set_cons_zero, List.set_cons_succ])
    refine wpTill_take 3 [4, 31, 34] (oi := { dst := some 21, op := Op.fieldAddr 53 (Operand.tmp 20) 0, type := 0, pos := "tree.go:31", after := #[{ on := 2, ground := Ground.data }], guard := none }) (v := ?v3) rfl (by kernel_rfl) (by kernel_rfl) (by kernel_rfl) (by kernel_rfl) (fun _ _ _ h => h) (Or.inl ⟨by rfl, ?hy3⟩) (by assumption) ?rest3
    case hy3 => (intro w' hSw; (try dsimp only at hSw); go_simp; try with_reducible rfl)
    case' rest3 => (try simp only [Act.put, List.setIfInBounds_toArray, List.set_cons_zero, List.set_cons_succ])
    refine wpTill_take 4 [31, 34] (oi := { dst := some 22, op := Op.load 51 (Operand.tmp 21), type := 51, pos := "tree.go:31", after := #[{ on := 3, ground := Ground.data }], guard := none }) (v := ?v4) rfl (by kernel_rfl) (by kernel_rfl) (by kernel_rfl) (by kernel_rfl) (fun _ _ _ h => h) (Or.inl ⟨by rfl, ?hy4⟩) (by assumption) ?rest4
    case hy4 => (intro w' hSw; (try dsimp only at hSw); go_simp; try with_reducible rfl)
    case' rest4 => (try simp only [Act.put, List.setIfInBounds_toArray, List.set_cons_zero, List.set_cons_succ])
    refine wpTill_take 5 [6, 7, 8, 22, 29, 30, 31, 34] (oi := { dst := some 23, op := Op.move (Operand.tmp 0), type := 55, pos := "tree.go:31", after := #[], guard := none }) (v := ?v5) rfl (by kernel_rfl) (by kernel_rfl) (by kernel_rfl) (by kernel_rfl) (fun _ _ _ h => h) (Or.inl ⟨by rfl, ?hy5⟩) (by assumption) ?rest5
    case hy5 => (intro w' hSw; (try dsimp only at hSw); go_simp; try with_reducible rfl)
    case' rest5 => (try simp only [Act.put, List.setIfInBounds_toArray, List.set_cons_zero, List.set_cons_succ])
    refine wpTill_take 6 [7, 8, 22, 29, 30, 31, 34] (oi := { dst := some 24, op := Op.nilCheck (Operand.tmp 23), type := 0, pos := "tree.go:31", after := #[{ on := 5, ground := Ground.data }], guard := none }) (v := ?v6) rfl (by kernel_rfl) (by kernel_rfl) (by kernel_rfl) (by kernel_rfl) (fun _ _ _ h => h) (Or.inl ⟨by rfl, ?hy6⟩) (by assumption) ?rest6
    case hy6 => (intro w' hSw; (try dsimp only at hSw); go_simp; try with_reducible rfl)
    case' rest6 => (try simp only [Act.put, List.setIfInBounds_toArray, List.set_cons_zero, List.set_cons_succ])
    refine wpTill_take 7 [8, 22, 29, 30, 31, 34] (oi := { dst := some 25, op := Op.fieldAddr 25 (Operand.tmp 24) 0, type := 0, pos := "tree.go:31", after := #[{ on := 6, ground := Ground.data }], guard := none }) (v := ?v7) rfl (by kernel_rfl) (by kernel_rfl) (by kernel_rfl) (by kernel_rfl) (fun _ _ _ h => h) (Or.inl ⟨by rfl, ?hy7⟩) (by assumption) ?rest7
    case hy7 => (intro w' hSw; (try dsimp only at hSw); go_simp; try with_reducible rfl)
    case' rest7 => (try simp only [Act.put, List.setIfInBounds_toArray, List.set_cons_zero, List.set_cons_succ])
    refine wpTill_take 8 [22, 29, 30, 31, 34] (oi := { dst := some 26, op := Op.load 3 (Operand.tmp 25), type := 3, pos := "tree.go:31", after := #[{ on := 7, ground := Ground.data }], guard := none }) (v := ?v8) rfl (by kernel_rfl) (by kernel_rfl) (by kernel_rfl) (by kernel_rfl) (fun _ _ _ h => h) (Or.inl ⟨by rfl, ?hy8⟩) (by assumption) ?rest8
    case hy8 => (intro w' hSw; (try dsimp only at hSw); go_simp; try with_reducible rfl)
    case' rest8 => (try simp only [Act.put, List.setIfInBounds_toArray, List.set_cons_zero, List.set_cons_succ])
    refine wpTill_take 9 [10, 11, 12, 22, 29, 30, 31, 34] (oi := { dst := some 27, op := Op.move (Operand.tmp 0), type := 55, pos := "tree.go:31", after := #[], guard := none }) (v := ?v9) rfl (by kernel_rfl) (by kernel_rfl) (by kernel_rfl) (by kernel_rfl) (fun _ _ _ h => h) (Or.inl ⟨by rfl, ?hy9⟩) (by assumption) ?rest9
    case hy9 => (intro w' hSw; (try dsimp only at hSw); go_simp; try with_reducible rfl)
    case' rest9 => (try simp only [Act.put, List.setIfInBounds_toArray, List.set_cons_zero, List.set_cons_succ])
    refine wpTill_take 10 [11, 12, 22, 29, 30, 31, 34] (oi := { dst := some 28, op := Op.nilCheck (Operand.tmp 27), type := 0, pos := "tree.go:31", after := #[{ on := 9, ground := Ground.data }], guard := none }) (v := ?v10) rfl (by kernel_rfl) (by kernel_rfl) (by kernel_rfl) (by kernel_rfl) (fun _ _ _ h => h) (Or.inl ⟨by rfl, ?hy10⟩) (by assumption) ?rest10
    case hy10 => (intro w' hSw; (try dsimp only at hSw); go_simp; try with_reducible rfl)
    case' rest10 => (try simp only [Act.put, List.setIfInBounds_toArray, List.set_cons_zero, List.set_cons_succ])
    refine wpTill_take 11 [12, 22, 29, 30, 31, 34] (oi := { dst := some 29, op := Op.fieldAddr 25 (Operand.tmp 28) 1, type := 0, pos := "tree.go:31", after := #[{ on := 10, ground := Ground.data }], guard := none }) (v := ?v11) rfl (by kernel_rfl) (by kernel_rfl) (by kernel_rfl) (by kernel_rfl) (fun _ _ _ h => h) (Or.inl ⟨by rfl, ?hy11⟩) (by assumption) ?rest11
    case hy11 => (intro w' hSw; (try dsimp only at hSw); go_simp; try with_reducible rfl)
    case' rest11 => (try simp only [Act.put, List.setIfInBounds_toArray, List.set_cons_zero, List.set_cons_succ])
    refine wpTill_take 12 [22, 29, 30, 31, 34] (oi := { dst := some 30, op := Op.load 3 (Operand.tmp 29), type := 3, pos := "tree.go:31", after := #[{ on := 11, ground := Ground.data }], guard := none }) (v := ?v12) rfl (by kernel_rfl) (by kernel_rfl) (by kernel_rfl) (by kernel_rfl) (fun _ _ _ h => h) (Or.inl ⟨by rfl, ?hy12⟩) (by assumption) ?rest12
    case hy12 => (intro w' hSw; (try dsimp only at hSw); go_simp; try with_reducible rfl)
    case' rest12 => (try simp only [Act.put, List.setIfInBounds_toArray, List.set_cons_zero, List.set_cons_succ])
    refine wpTill_take 13 [14, 15, 16, 22, 29, 30, 31, 34] (oi := { dst := some 31, op := Op.move (Operand.tmp 0), type := 55, pos := "tree.go:31", after := #[], guard := none }) (v := ?v13) rfl (by kernel_rfl) (by kernel_rfl) (by kernel_rfl) (by kernel_rfl) (fun _ _ _ h => h) (Or.inl ⟨by rfl, ?hy13⟩) (by assumption) ?rest13
    case hy13 => (intro w' hSw; (try dsimp only at hSw); go_simp; try with_reducible rfl)
    case' rest13 => (try simp only [Act.put, List.setIfInBounds_toArray, List.set_cons_zero, List.set_cons_succ])
    refine wpTill_take 14 [15, 16, 22, 29, 30, 31, 34] (oi := { dst := some 32, op := Op.nilCheck (Operand.tmp 31), type := 0, pos := "tree.go:31", after := #[{ on := 13, ground := Ground.data }], guard := none }) (v := ?v14) rfl (by kernel_rfl) (by kernel_rfl) (by kernel_rfl) (by kernel_rfl) (fun _ _ _ h => h) (Or.inl ⟨by rfl, ?hy14⟩) (by assumption) ?rest14
    case hy14 => (intro w' hSw; (try dsimp only at hSw); go_simp; try with_reducible rfl)
    case' rest14 => (try simp only [Act.put, List.setIfInBounds_toArray, List.set_cons_zero, List.set_cons_succ])
    refine wpTill_take 15 [16, 22, 29, 30, 31, 34] (oi := { dst := some 33, op := Op.fieldAddr 25 (Operand.tmp 32) 2, type := 0, pos := "tree.go:31", after := #[{ on := 14, ground := Ground.data }], guard := none }) (v := ?v15) rfl (by kernel_rfl) (by kernel_rfl) (by kernel_rfl) (by kernel_rfl) (fun _ _ _ h => h) (Or.inl ⟨by rfl, ?hy15⟩) (by assumption) ?rest15
    case hy15 => (intro w' hSw; (try dsimp only at hSw); go_simp; try with_reducible rfl)
    case' rest15 => (try simp only [Act.put, List.setIfInBounds_toArray, List.set_cons_zero, List.set_cons_succ])
    refine wpTill_take 16 [22, 29, 30, 31, 34] (oi := { dst := some 34, op := Op.load 3 (Operand.tmp 33), type := 3, pos := "tree.go:31", after := #[{ on := 15, ground := Ground.data }], guard := none }) (v := ?v16) rfl (by kernel_rfl) (by kernel_rfl) (by kernel_rfl) (by kernel_rfl) (fun _ _ _ h => h) (Or.inl ⟨by rfl, ?hy16⟩) (by assumption) ?rest16
    case hy16 => (intro w' hSw; (try dsimp only at hSw); go_simp; try with_reducible rfl)
    case' rest16 => (try simp only [Act.put, List.setIfInBounds_toArray, List.set_cons_zero, List.set_cons_succ])
    refine wpTill_take 17 [18, 19, 20, 22, 29, 30, 31, 34] (oi := { dst := some 35, op := Op.move (Operand.tmp 0), type := 55, pos := "tree.go:31", after := #[], guard := none }) (v := ?v17) rfl (by kernel_rfl) (by kernel_rfl) (by kernel_rfl) (by kernel_rfl) (fun _ _ _ h => h) (Or.inl ⟨by rfl, ?hy17⟩) (by assumption) ?rest17
    case hy17 => (intro w' hSw; (try dsimp only at hSw); go_simp; try with_reducible rfl)
    case' rest17 => (try simp only [Act.put, List.setIfInBounds_toArray, List.set_cons_zero, List.set_cons_succ])
    refine wpTill_take 18 [19, 20, 22, 29, 30, 31, 34] (oi := { dst := some 36, op := Op.nilCheck (Operand.tmp 35), type := 0, pos := "tree.go:31", after := #[{ on := 17, ground := Ground.data }], guard := none }) (v := ?v18) rfl (by kernel_rfl) (by kernel_rfl) (by kernel_rfl) (by kernel_rfl) (fun _ _ _ h => h) (Or.inl ⟨by rfl, ?hy18⟩) (by assumption) ?rest18
    case hy18 => (intro w' hSw; (try dsimp only at hSw); go_simp; try with_reducible rfl)
    case' rest18 => (try simp only [Act.put, List.setIfInBounds_toArray, List.set_cons_zero, List.set_cons_succ])
    refine wpTill_take 19 [20, 22, 29, 30, 31, 34] (oi := { dst := some 37, op := Op.fieldAddr 25 (Operand.tmp 36) 3, type := 0, pos := "tree.go:31", after := #[{ on := 18, ground := Ground.data }], guard := none }) (v := ?v19) rfl (by kernel_rfl) (by kernel_rfl) (by kernel_rfl) (by kernel_rfl) (fun _ _ _ h => h) (Or.inl ⟨by rfl, ?hy19⟩) (by assumption) ?rest19
    case hy19 => (intro w' hSw; (try dsimp only at hSw); go_simp; try with_reducible rfl)
    case' rest19 => (try simp only [Act.put, List.setIfInBounds_toArray, List.set_cons_zero, List.set_cons_succ])
    refine wpTill_take 20 [22, 29, 30, 31, 34] (oi := { dst := some 38, op := Op.load 3 (Operand.tmp 37), type := 3, pos := "tree.go:31", after := #[{ on := 19, ground := Ground.data }], guard := none }) (v := ?v20) rfl (by kernel_rfl) (by kernel_rfl) (by kernel_rfl) (by kernel_rfl) (fun _ _ _ h => h) (Or.inl ⟨by rfl, ?hy20⟩) (by assumption) ?rest20
    case hy20 => (intro w' hSw; (try dsimp only at hSw); go_simp; try with_reducible rfl)
    case' rest20 => (try simp only [Act.put, List.setIfInBounds_toArray, List.set_cons_zero, List.set_cons_succ])
    refine wpTill_take 21 [22, 29, 30, 31, 34] (oi := { dst := some 39, op := Op.move (Operand.tmp 1), type := 3, pos := "tree.go:31", after := #[], guard := none }) (v := ?v21) rfl (by kernel_rfl) (by kernel_rfl) (by kernel_rfl) (by kernel_rfl) (fun _ _ _ h => h) (Or.inl ⟨by rfl, ?hy21⟩) (by assumption) ?rest21
    case hy21 => (intro w' hSw; (try dsimp only at hSw); go_simp; try with_reducible rfl)
    case' rest21 => (try simp only [Act.put, List.setIfInBounds_toArray, List.set_cons_zero, List.set_cons_succ])
    refine wpTill_take 22 [29, 30, 31, 34] (oi := { dst := some 40, op := Op.build 34 #[(0, Operand.tmp 26), (1, Operand.tmp 30), (2, Operand.tmp 34), (3, Operand.tmp 38), (4, Operand.tmp 39), (5, Operand.const (Value.int IntKind.i64 (-1))), (6, Operand.const (Value.int IntKind.i64 (-1)))], type := 34, pos := "tree.go:31", after := #[{ on := 8, ground := Ground.data }, { on := 12, ground := Ground.data }, { on := 16, ground := Ground.data }, { on := 20, ground := Ground.data }, { on := 21, ground := Ground.data }], guard := none }) (v := ?v22) rfl (by kernel_rfl) (by kernel_rfl) (by kernel_rfl) (by kernel_rfl) (fun _ _ _ h => h) (Or.inl ⟨by rfl, ?hy22⟩) (by assumption) ?rest22
    case hy22 => (intro w' hSw; (try dsimp only at hSw); go_simp; try with_reducible rfl)
    case' rest22 => (try simp only [Act.put, List.setIfInBounds_toArray, List.set_cons_zero, List.set_cons_succ])
    refine wpTill_take 23 [24, 25, 26, 27, 29, 30, 31, 34] (oi := { dst := some 41, op := Op.move (Operand.tmp 0), type := 55, pos := "tree.go:31", after := #[], guard := none }) (v := ?v23) rfl (by kernel_rfl) (by kernel_rfl) (by kernel_rfl) (by kernel_rfl) (fun _ _ _ h => h) (Or.inl ⟨by rfl, ?hy23⟩) (by assumption) ?rest23
    case hy23 => (intro w' hSw; (try dsimp only at hSw); go_simp; try with_reducible rfl)
    case' rest23 => (try simp only [Act.put, List.setIfInBounds_toArray, List.set_cons_zero, List.set_cons_succ])
    refine wpTill_take 24 [25, 26, 27, 29, 30, 31, 34] (oi := { dst := some 42, op := Op.nilCheck (Operand.tmp 41), type := 0, pos := "tree.go:31", after := #[{ on := 23, ground := Ground.data }], guard := none }) (v := ?v24) rfl (by kernel_rfl) (by kernel_rfl) (by kernel_rfl) (by kernel_rfl) (fun _ _ _ h => h) (Or.inl ⟨by rfl, ?hy24⟩) (by assumption) ?rest24
    case hy24 => (intro w' hSw; (try dsimp only at hSw); go_simp; try with_reducible rfl)
    case' rest24 => (try simp only [Act.put, List.setIfInBounds_toArray, List.set_cons_zero, List.set_cons_succ])
    refine wpTill_take 25 [26, 27, 29, 30, 31, 34] (oi := { dst := some 43, op := Op.fieldAddr 25 (Operand.tmp 42) 4, type := 0, pos := "tree.go:31", after := #[{ on := 24, ground := Ground.data }], guard := none }) (v := ?v25) rfl (by kernel_rfl) (by kernel_rfl) (by kernel_rfl) (by kernel_rfl) (fun _ _ _ h => h) (Or.inl ⟨by rfl, ?hy25⟩) (by assumption) ?rest25
    case hy25 => (intro w' hSw; (try dsimp only at hSw); go_simp; try with_reducible rfl)
    case' rest25 => (try simp only [Act.put, List.setIfInBounds_toArray, List.set_cons_zero, List.set_cons_succ])
    refine wpTill_take 26 [27, 29, 30, 31, 34] (oi := { dst := some 44, op := Op.load 22 (Operand.tmp 43), type := 22, pos := "tree.go:31", after := #[{ on := 25, ground := Ground.data }], guard := none }) (v := ?v26) rfl (by kernel_rfl) (by kernel_rfl) (by kernel_rfl) (by kernel_rfl) (fun _ _ _ h => h) (Or.inl ⟨by rfl, ?hy26⟩) (by assumption) ?rest26
    case hy26 => (intro w' hSw; (try dsimp only at hSw); go_simp; try with_reducible rfl)
    case' rest26 => (try simp only [Act.put, List.setIfInBounds_toArray, List.set_cons_zero, List.set_cons_succ])
    refine wpTill_take 28 [29, 30, 31, 34] (oi := { dst := some 46, op := Op.move (Operand.tmp 2), type := 3, pos := "tree.go:31", after := #[], guard := none }) (v := ?v28) rfl (by kernel_rfl) (by kernel_rfl) (by kernel_rfl) (by kernel_rfl) (fun _ _ _ h => h) (Or.inl ⟨by rfl, ?hy28⟩) (by assumption) ?rest28
    case hy28 => (intro w' hSw; (try dsimp only at hSw); go_simp; try with_reducible rfl)
    case' rest28 => (try simp only [Act.put, List.setIfInBounds_toArray, List.set_cons_zero, List.set_cons_succ])

    refine wpTill_one 27 (o := { dst := some 45, op := Op.call { callee := Callee.value (Operand.func 32), args := #[Operand.tmp 44], argTypes := #[22] }, type := 22, pos := "tree.go:33", after := #[{ on := 26, ground := Ground.data }], guard := none }) (by kernel_rfl) rfl ?_
    intro K' hK
    go_simp
    go_at_call 32
    refine (clone_any np nn nc ns _ (HIN.out.step (Below.refl _ _).drew) hfit1).mono ?_
    rintro e w2 ⟨p', c', rfl, hin2, hnew, hb2d⟩
    have hb2 : Below w.heap.size w w2 := ((Below.refl _ _).drew).trans hb2d
    refine hK.out _ _ (fun _ => ?_) ?_
    · exact ⟨(hb2.cell hbtw).trans bt, (hb2.cell htw).trans tt, (hb2.cell (p := ⟨pb, _, none⟩) hpw).trans a0, (hb2.cell (p := ⟨pb, _, none⟩) hpw).trans a1, (hb2.cell (p := ⟨pb, _, none⟩) hpw).trans a2, (hb2.cell (p := ⟨pb, _, none⟩) hpw).trans a3, (hb2.cell (p := ⟨pb, _, none⟩) hpw).trans a4⟩
    clear hK K' hb2d hHeld
    have hs2 := hb2.size
    have hHeld : (fun w' : World => w'.cell? ⟨Bt, 0, none⟩ = some (.pointer (some ⟨T, 0, none⟩)) ∧ w'.cell? ⟨T, 0, none⟩ = some (.slice p old.length c) ∧ w'.cell? ⟨pb, po, none⟩ = some (.int .i64 hk) ∧ w'.cell? ⟨pb, po + 1, none⟩ = some (.int .i64 hm) ∧ w'.cell? ⟨pb, po + 2, none⟩ = some (.int .i64 hf) ∧ w'.cell? ⟨pb, po + 3, none⟩ = some (.int .i64 ht) ∧ w'.cell? ⟨pb, po + 4, none⟩ = some (.slice np nn nc)) w2 := ⟨(hb2.cell hbtw).trans bt, (hb2.cell htw).trans tt, (hb2.cell (p := ⟨pb, _, none⟩) hpw).trans a0, (hb2.cell (p := ⟨pb, _, none⟩) hpw).trans a1, (hb2.cell (p := ⟨pb, _, none⟩) hpw).trans a2, (hb2.cell (p := ⟨pb, _, none⟩) hpw).trans a3, (hb2.cell (p := ⟨pb, _, none⟩) hpw).trans a4⟩
    have HB2 := Lib.hid hb2
    have HIN2 := Lib.hid hin2
    have HNEW := Lib.hid hnew
    clear hb2 hin2 hnew
    try simp only [Act.put, List.setIfInBounds_toArray, List.set_cons_zero, List.set_cons_succ]
    refine wpTill_take 29 [30, 31, 34] (oi := { dst := some 47, op := Op.build 58 #[(0, Operand.tmp 40), (1, Operand.tmp 45), (2, Operand.tmp 46)], type := 58, pos := "tree.go:31", after := #[{ on := 22, ground := Ground.data }, { on := 27, ground := Ground.data }, { on := 28, ground := Ground.data }], guard := none }) (v := ?v29) rfl (by kernel_rfl) (by kernel_rfl) (by kernel_rfl) (by kernel_rfl) (fun _ _ _ h => h) (Or.inl ⟨by rfl, ?hy29⟩) (by assumption) ?rest29
    case hy29 => (intro w' hSw; (try dsimp only at hSw); go_simp; try with_reducible rfl)
    case' rest29 => (try simp only [Act.put, List.setIfInBounds_toArray, List.set_cons_zero, List.set_cons_succ])

    refine wpTill_one 30 (o := { dst := some 48, op := Op.buildSlice 51 1 #[(0, Operand.tmp 47)], type := 51, pos := "tree.go:31", after := #[{ on := 29, ground := Ground.data }], guard := none }) (by kernel_rfl) rfl ?_
    intro K' hK
    go_simp
    have HB3 : Hid (Below w.heap.size w (w2.alloc (.cells #[.int .i64 hk, .int .i64 hm, .int .i64 hf, .int .i64 ht, .int .i64 up, .int .i64 (-1), .int .i64 (-1), .slice p' nn c', .int .i64 deep] 58))) := Lib.hid (HB2.out.alloc hs2 _)
    have hHeld3 : (fun w' : World => w'.cell? ⟨Bt, 0, none⟩ = some (.pointer (some ⟨T, 0, none⟩)) ∧ w'.cell? ⟨T, 0, none⟩ = some (.slice p old.length c) ∧ w'.cell? ⟨pb, po, none⟩ = some (.int .i64 hk) ∧ w'.cell? ⟨pb, po + 1, none⟩ = some (.int .i64 hm) ∧ w'.cell? ⟨pb, po + 2, none⟩ = some (.int .i64 hf) ∧ w'.cell? ⟨pb, po + 3, none⟩ = some (.int .i64 ht) ∧ w'.cell? ⟨pb, po + 4, none⟩ = some (.slice np nn nc)) (w2.alloc (.cells #[.int .i64 hk, .int .i64 hm, .int .i64 hf, .int .i64 ht, .int .i64 up, .int .i64 (-1), .int .i64 (-1), .slice p' nn c', .int .i64 deep] 58)) := ⟨(HB3.out.cell hbtw).trans bt, (HB3.out.cell htw).trans tt, (HB3.out.cell (p := ⟨pb, _, none⟩) hpw).trans a0, (HB3.out.cell (p := ⟨pb, _, none⟩) hpw).trans a1, (HB3.out.cell (p := ⟨pb, _, none⟩) hpw).trans a2, (HB3.out.cell (p := ⟨pb, _, none⟩) hpw).trans a3, (HB3.out.cell (p := ⟨pb, _, none⟩) hpw).trans a4⟩
    refine hK.out _ _ (fun _ => hHeld3) ?_
    clear hK K' hHeld hHeld3
    try simp only [Act.put, List.setIfInBounds_toArray, List.set_cons_zero, List.set_cons_succ]
    refine wpTill_one 31 (o := { dst := some 49, op := Op.call { callee := Callee.builtin Builtin.append, args := #[Operand.tmp 22, Operand.tmp 48], argTypes := #[51, 51] }, type := 51, pos := "tree.go:31", after := #[{ on := 4, ground := Ground.data }, { on := 30, ground := Ground.data }, { on := 27, ground := Ground.chain }], guard := none }) (by kernel_rfl) rfl ?_
    intro K' hK
    refine step_append_lies _ (by rfl) _ _ 51 (by rfl) B 58 i0 _ 9 88 Try.underlying51 hi0 hy0 hy1 hy2 rfl (by omega) _ old.length _ (by rfl) (row_step HO.out HB3.out) ⟨w2.heap.size, 0, none⟩ 1 1 [.int .i64 hk, .int .i64 hm, .int .i64 hf, .int .i64 ht, .int .i64 up, .int .i64 (-1), .int .i64 (-1), .slice p' nn c', .int .i64 deep] (by rfl) (by rfl) (World.news_of_block (cs := #[.int .i64 hk, .int .i64 hm, .int .i64 hf, .int .i64 ht, .int .i64 up, .int .i64 (-1), .int .i64 (-1), .slice p' nn c', .int .i64 deep]) (t := 58) (fr := (0, 0)) (heap_alloc_new _ _)) (by simp [Value.oneCell']) (by omega) (by unfold maxLen; omega) (by omega) (by simp; omega) (w2.heap.size + 1) (by simp) ?_
    intro g cap w4 hown4 hgrow hg hlt
    have hfar : ∀ j, j < B → w4.heap[j]? = w.heap[j]? := fun j hj => by
      rw [hgrow.block j (by simp; omega) (fun e => by have := (HO.out.lt _ e.symm).1; omega), HB3.out.block j (by omega)]
    have hcell : ∀ j o, j < B → w4.cell? ⟨j, o, none⟩ = w.cell? ⟨j, o, none⟩ := fun j o hj => World.cell?_of_block (hfar j hj)
    have hg' : (Value.slice p old.length c).ownBlock = some g ∨ g = w2.heap.size + 1 := hg
    have tt4 := (hcell T 0 hTB).trans tt
    have tf4 : w4.frozen? ⟨T, 0, none⟩ = false := (World.frozen?_of_block (w := w) (hfar T hTB)).trans tf
    have hHeld : (fun w' : World => w'.cell? ⟨Bt, 0, none⟩ = some (.pointer (some ⟨T, 0, none⟩)) ∧ w'.cell? ⟨T, 0, none⟩ = some (.slice p old.length c) ∧ w'.cell? ⟨pb, po, none⟩ = some (.int .i64 hk) ∧ w'.cell? ⟨pb, po + 1, none⟩ = some (.int .i64 hm) ∧ w'.cell? ⟨pb, po + 2, none⟩ = some (.int .i64 hf) ∧ w'.cell? ⟨pb, po + 3, none⟩ = some (.int .i64 ht) ∧ w'.cell? ⟨pb, po + 4, none⟩ = some (.slice np nn nc)) w4 := ⟨(hcell Bt 0 hBt).trans bt, tt4, (hcell pb _ (by omega)).trans a0, (hcell pb _ (by omega)).trans a1, (hcell pb _ (by omega)).trans a2, (hcell pb _ (by omega)).trans a3, (hcell pb _ (by omega)).trans a4⟩
    refine hK.out _ _ (fun _ => hHeld) ?_
    clear hK K'
    have HG := Lib.hid hgrow
    have HO4 := Lib.hid hown4
    have HG' := Lib.hid hg'
    clear hgrow hown4 hg hg' hfar hcell
    try simp only [Act.put, List.setIfInBounds_toArray, List.set_cons_zero, List.set_cons_succ]
    refine wpTill_take 32 [33, 34] (oi := { dst := some 50, op := Op.nilCheck (Operand.tmp 18), type := 0, pos := "tree.go:31", after := #[{ on := 0, ground := Ground.data }, { on := 0, ground := Ground.phase }, { on := 1, ground := Ground.phase }, { on := 2, ground := Ground.phase }, { on := 3, ground := Ground.phase }, { on := 4, ground := Ground.phase }, { on := 5, ground := Ground.phase }, { on := 6, ground := Ground.phase }, { on := 7, ground := Ground.phase }, { on := 8, ground := Ground.phase }, { on := 9, ground := Ground.phase }, { on := 10, ground := Ground.phase }, { on := 11, ground := Ground.phase }, { on := 12, ground := Ground.phase }, { on := 13, ground := Ground.phase }, { on := 14, ground := Ground.phase }, { on := 15, ground := Ground.phase }, { on := 16, ground := Ground.phase }, { on := 17, ground := Ground.phase }, { on := 18, ground := Ground.phase }, { on := 19, ground := Ground.phase }, { on := 20, ground := Ground.phase }, { on := 21, ground := Ground.phase }, { on := 22, ground := Ground.phase }, { on := 23, ground := Ground.phase }, { on := 24, ground := Ground.phase }, { on := 25, ground := Ground.phase }, { on := 26, ground := Ground.phase }, { on := 27, ground := Ground.phase }, { on := 28, ground := Ground.phase }, { on := 29, ground := Ground.phase }, { on := 30, ground := Ground.phase }, { on := 31, ground := Ground.phase }], guard := none }) (v := ?v32) rfl (by kernel_rfl) (by kernel_rfl) (by kernel_rfl) (by kernel_rfl) (fun _ _ _ h => h) (Or.inl ⟨by rfl, ?hy32⟩) (by assumption) ?rest32
    case hy32 => (intro w' hSw; (try dsimp only at hSw); go_simp; try with_reducible rfl)
    case' rest32 => (try simp only [Act.put, List.setIfInBounds_toArray, List.set_cons_zero, List.set_cons_succ])

    refine wpTill_take 33 [34] (oi := { dst := some 51, op := Op.fieldAddr 53 (Operand.tmp 50) 0, type := 0, pos := "tree.go:31", after := #[{ on := 32, ground := Ground.data }, { on := 0, ground := Ground.phase }, { on := 1, ground := Ground.phase }, { on := 2, ground := Ground.phase }, { on := 3, ground := Ground.phase }, { on := 4, ground := Ground.phase }, { on := 5, ground := Ground.phase }, { on := 6, ground := Ground.phase }, { on := 7, ground := Ground.phase }, { on := 8, ground := Ground.phase }, { on := 9, ground := Ground.phase }, { on := 10, ground := Ground.phase }, { on := 11, ground := Ground.phase }, { on := 12, ground := Ground.phase }, { on := 13, ground := Ground.phase }, { on := 14, ground := Ground.phase }, { on := 15, ground := Ground.phase }, { on := 16, ground := Ground.phase }, { on := 17, ground := Ground.phase }, { on := 18, ground := Ground.phase }, { on := 19, ground := Ground.phase }, { on := 20, ground := Ground.phase }, { on := 21, ground := Ground.phase }, { on := 22, ground := Ground.phase }, { on := 23, ground := Ground.phase }, { on := 24, ground := Ground.phase }, { on := 25, ground := Ground.phase }, { on := 26, ground := Ground.phase }, { on := 27, ground := Ground.phase }, { on := 28, ground := Ground.phase }, { on := 29, ground := Ground.phase }, { on := 30, ground := Ground.phase }, { on := 31, ground := Ground.phase }], guard := none }) (v := ?v33) rfl (by kernel_rfl) (by kernel_rfl) (by kernel_rfl) (by kernel_rfl) (fun _ _ _ h => h) (Or.inl ⟨by rfl, ?hy33⟩) (by assumption) ?rest33
    case hy33 => (intro w' hSw; (try dsimp only at hSw); go_simp; try with_reducible rfl)
    case' rest33 => (try simp only [Act.put, List.setIfInBounds_toArray, List.set_cons_zero, List.set_cons_succ])

    refine wpTill_one 34 (o := { dst := none, op := Op.store 51 (Operand.tmp 51) (Operand.tmp 49), type := 0, pos := "tree.go:31", after := #[{ on := 33, ground := Ground.data }, { on := 31, ground := Ground.data }, { on := 31, ground := Ground.chain }, { on := 0, ground := Ground.phase }, { on := 1, ground := Ground.phase }, { on := 2, ground := Ground.phase }, { on := 3, ground := Ground.phase }, { on := 4, ground := Ground.phase }, { on := 5, ground := Ground.phase }, { on := 6, ground := Ground.phase }, { on := 7, ground := Ground.phase }, { on := 8, ground := Ground.phase }, { on := 9, ground := Ground.phase }, { on := 10, ground := Ground.phase }, { on := 11, ground := Ground.phase }, { on := 12, ground := Ground.phase }, { on := 13, ground := Ground.phase }, { on := 14, ground := Ground.phase }, { on := 15, ground := Ground.phase }, { on := 16, ground := Ground.phase }, { on := 17, ground := Ground.phase }, { on := 18, ground := Ground.phase }, { on := 19, ground := Ground.phase }, { on := 20, ground := Ground.phase }, { on := 21, ground := Ground.phase }, { on := 22, ground := Ground.phase }, { on := 23, ground := Ground.phase }, { on := 24, ground := Ground.phase }, { on := 25, ground := Ground.phase }, { on := 26, ground := Ground.phase }, { on := 27, ground := Ground.phase }, { on := 28, ground := Ground.phase }, { on := 29, ground := Ground.phase }, { on := 30, ground := Ground.phase }, { on := 31, ground := Ground.phase }], guard := none }) (by kernel_rfl) rfl ?_
    intro K' hK
    go_simp
    refine hK.out _ _ (fun h => absurd (show true = false from h) (by simp)) ?_
    clear hK K' hHeld
    refine wpTill_done (by kernel_rfl) ?_ _
    have HST : Hid (St wb B T Bt Bl (w4.setCell ⟨T, 0, none⟩ (.slice (some ⟨g, 0, none⟩) (old.length + 1) cap)) (old ++ partly ⟨hk, hm, hf, ht, np, nn, nc, ns, kp, ks.length, kc⟩ ks up deep old.length 0)) := Lib.hid (by
      have e : partly ⟨hk, hm, hf, ht, np, nn, nc, ns, kp, ks.length, kc⟩ ks up deep old.length 0 = [⟨hk, hm, hf, ht, up, -1, -1, deep, ns⟩] := by simp [partly, flats]
      rw [e]
      refine St.laid (p := p') (n := nn) (c := c') hT hTB hBt hBl h1 h2 hwb HB.out hsize bt bl HD.out tt tf HO.out HN.out HB2.out HIN2.out HNEW.out HG.out ?_ ?_
      · rw [cellsN_append]; exact HO4.out
      · exact HG'.out)
    clear tt4 tf4 HG HO4 HG' HB2 HIN2 HNEW HB3 tt tf bt bl a0 a1 a2 a3 a4 a5 HN HO HB HD HIN hlt hs2
    generalize w4.setCell ⟨T, 0, none⟩ (.slice (some ⟨g, 0, none⟩) (old.length + 1) cap) = w5 at *
    have a5 := (HAT.out w5 HST.out.below).2.2.2.2.2
    simp only at a5
    have HAT5 : Hid (∀ w2, Below wb.heap.size wb w2 → w2.cell? ⟨pb, po + 5, none⟩ = some (.slice kp ks.length kc)) := Lib.hid fun w2 hb2 => (HAT.out w2 hb2).2.2.2.2.2
    generalize hh : (⟨hk, hm, hf, ht, np, nn, nc, ns, kp, ks.length, kc⟩ : Hd) = h at *
    have HL0 : Hid (∀ k, (old ++ partly h ks up deep old.length k).length = old.length + (sizes (ks.take k) + 1)) := Lib.hid fun k => by rw [List.length_append, partly_length]
    go_wp2_with fail
    go_loopw [10, 57] (fun av iv wr => ∃ k : Nat, k ≤ ks.length ∧ iv = .int .i64 k ∧ ((k = 0 ∧ av = .int .i64 (-1)) ∨ (∃ k', k = k' + 1 ∧ av = .int .i64 ((old.length + (sizes (ks.take k') + 1) : Nat) : Int))) ∧ St wb B T Bt Bl wr (old ++ partly h ks up deep old.length k)) (fun _ i _ => ks.length - (intOf i).toNat)
    case atStart => exact ⟨0, by omega, rfl, .inl ⟨rfl, rfl⟩, HST.out⟩
    case round =>
      obtain ⟨k, hk0, rfl, hav, hst⟩ := hrel
      have a5 := HAT5.out wr hst.below
      have bl := hst.bl
      have hsw := hst.below.size
      by_cases hlt : k < ks.length
      · obtain ⟨b1, off, rfl, hcap, hb1, hkat⟩ : ∃ b0 off, kp = some ⟨b0, off, none⟩ ∧ ks.length ≤ kc ∧ b0 < wb.heap.size ∧ KidsAt wb b0 off ks := by
          rcases HK.out.2 with h0 | h3
          · omega
          · exact h3
        have hts := sizes_take_succ hlt
        have htl := sizes_take_le ks (k + 1)
        have hp := ks[k].size_pos
        have hmem := List.getElem_mem hlt
        have HIH := Lib.hid (HI.out ks[k] hmem (old.length : Int) (deep + 1) (old ++ partly h ks up deep old.length k) b1 (off + k * 6) wr.drew hst.drew (hkat k hlt) hb1 (HL.out _ hmem) (HF2.out _ hmem) (by rw [HL0.out k]; omega) (by omega) (by omega))
        have hwrap : IntKind.i64.wrap (deep + 1) = deep + 1 := IntWalk.i64_in _ (by omega)
        have hk1 : (0 : Int) ≤ (k : Int) := by omega
        have hk2 : (k : Int) < (ks.length : Int) := by omega
        have HSTR := Lib.hid hst
        clear hst hkat hts htl hmem
        obtain ⟨m, hm0⟩ : ∃ m, m = old.length + (sizes (ks.take k) + 1) := ⟨_, rfl⟩
        rw [HL0.out k, ← hm0] at HIH
        have hmm : m ≤ 1000 := by have := sizes_take_le ks k; omega
        obtain ⟨L2, hL2⟩ : ∃ L2, L2 = old ++ partly h ks up deep old.length k ++ (ks[k].flat old.length (deep + 1) (-1) 0 m).map Ent.kn := ⟨_, rfl⟩
        rw [← hL2] at HIH
        have hlen2 : old.length + (sizes (ks.take k) + 1) < L2.length := by
          rw [hL2, List.length_append, HL0.out k]; simp [flat_length]; exact hp
        rcases hav with ⟨rfl, rfl⟩ | ⟨k', rfl, rfl⟩
        · have hm1 : m = old.length + 1 := by rw [hm0]; simp [sizes]
          have HW : Hid (∀ w2, St wb B T Bt Bl w2 L2 → ∃ g c y, w2.cell? ⟨T, 0, none⟩ = some (.slice (some ⟨g, 0, none⟩) L2.length c) ∧ w2.cell? ⟨g, old.length * 9 + 5, none⟩ = some y ∧ w2.frozen? ⟨g, old.length * 9 + 5, none⟩ = false ∧ L2.length ≤ c ∧ St wb B T Bt Bl (w2.setCell ⟨g, old.length * 9 + 5, none⟩ (.int .i64 (m : Int))) (old ++ partly h ks up deep old.length 1)) := Lib.hid fun w2 h2' => by
            have hi : old.length < L2.length := by omega
            have := h2'.write hT hTB hBt hBl h1 h2 hwb old.length 5 (fun x => x.setFirst (m : Int)) (m : Int) hi (by omega) (fun _ => rfl) (fun _ => rfl)
            have e : L2.set old.length (L2[old.length].setFirst (m : Int)) = old ++ partly h ks up deep old.length 1 := by
              subst hL2 hm1
              exact partly_first h ks up deep old hlt _
            rw [e] at this
            exact this
          have hlen3 : old.length < L2.length := by omega
          have hmz : m = old.length + (sizes (ks.take 0) + 1) := hm0
          have HMZ := Lib.hid hmz
          clear hL2 hm0 hm1 hlen2 hmz
          go_wp2_with fail
          clear HL HK HI HF2 HAT HST i0 hi0 hy0 hy1 hy2 hh hwb hb1 hcap HL0
          go_region_held3 (fun w' => w'.cell? ⟨Bl, 0, none⟩ = some (.func (.func 31) #[] #[.pointer (some ⟨Bt, 0, none⟩), .pointer (some ⟨Bl, 0, none⟩)]) ∧ w'.cell? ⟨pb, po + 5, none⟩ = some (.slice (some ⟨b1, off, none⟩) ks.length kc)) (go_keep) ((first | (go_at_call 31; refine HIH.out.mono ?_; rintro e w2 ⟨rfl, hst2⟩; have q0 := hst2.bl; have q1 := HAT5.out _ hst2.below)))
          obtain ⟨g, c2, y, tt2, cc, cf, hc2, hst3⟩ := HW.out w2 hst2
          have bt2 := hst2.bt
          have hn1 : (0 : Int) ≤ (old.length : Int) := by omega
          have hn2 : (old.length : Int) < (L2.length : Int) := by omega
          have HS3 := Lib.hid hst3
          clear hst2 hst3 HW q0 q1
          go_wp2_with fail
          go_roundw
          case rel => exact ⟨1, by omega, by go_num, .inr ⟨0, rfl, by rw [HMZ.out]⟩, HS3.out⟩
          case measure => simp [intOf]; omega
        · have HW : Hid (∀ w2, St wb B T Bt Bl w2 L2 → ∃ g c y, w2.cell? ⟨T, 0, none⟩ = some (.slice (some ⟨g, 0, none⟩) L2.length c) ∧ w2.cell? ⟨g, (old.length + (sizes (ks.take k') + 1)) * 9 + 6, none⟩ = some y ∧ w2.frozen? ⟨g, (old.length + (sizes (ks.take k') + 1)) * 9 + 6, none⟩ = false ∧ L2.length ≤ c ∧ St wb B T Bt Bl (w2.setCell ⟨g, (old.length + (sizes (ks.take k') + 1)) * 9 + 6, none⟩ (.int .i64 (m : Int))) (old ++ partly h ks up deep old.length (k' + 2))) := Lib.hid fun w2 h2' => by
            have hi : old.length + (sizes (ks.take k') + 1) < L2.length := by
              have := sizes_take_succ (ks := ks) (k := k') (by omega)
              omega
            have := h2'.write hT hTB hBt hBl h1 h2 hwb (old.length + (sizes (ks.take k') + 1)) 6 (fun x => x.setNext (m : Int)) (m : Int) hi (by omega) (fun _ => rfl) (fun _ => rfl)
            have e : L2.set (old.length + (sizes (ks.take k') + 1)) (L2[old.length + (sizes (ks.take k') + 1)].setNext (m : Int)) = old ++ partly h ks up deep old.length (k' + 2) := by
              subst hL2
              exact partly_next h ks up deep old k' hlt m hm0 _ rfl _
            rw [e] at this
            exact this
          have hlen3 : old.length + (sizes (ks.take k') + 1) < L2.length := by
            have := sizes_take_succ (ks := ks) (k := k') (by omega)
            omega
          have HMZ := Lib.hid hm0
          have hk1 : (0 : Int) ≤ (k' : Int) + 1 := by omega
          have hk2 : (k' : Int) + 1 < (ks.length : Int) := by omega
          have hne : (((old.length + (sizes (ks.take k') + 1) : Nat) : Int) == -1) = false := by rw [beq_eq_false_iff_ne]; omega
          obtain ⟨pos, hpos⟩ : ∃ pos, pos = old.length + (sizes (ks.take k') + 1) := ⟨_, rfl⟩
          rw [← hpos] at HW hlen3 hne ⊢
          clear hL2 hlen2 hm0 hpos
          go_wp2_with fail
          clear HL HK HI HF2 HAT HST i0 hi0 hy0 hy1 hy2 hh hwb hb1 hcap HL0
          go_region_held3 (fun w' => w'.cell? ⟨Bl, 0, none⟩ = some (.func (.func 31) #[] #[.pointer (some ⟨Bt, 0, none⟩), .pointer (some ⟨Bl, 0, none⟩)]) ∧ w'.cell? ⟨pb, po + 5, none⟩ = some (.slice (some ⟨b1, off, none⟩) ks.length kc)) (go_keep) ((first | (go_at_call 31; refine HIH.out.mono ?_; rintro e w2 ⟨rfl, hst2⟩; have q0 := hst2.bl; have q1 := HAT5.out _ hst2.below)))
          obtain ⟨g, c2, y, tt2, cc, cf, hc2, hst3⟩ := HW.out w2 hst2
          have bt2 := hst2.bt
          have hn1 : (0 : Int) ≤ (pos : Int) := by omega
          have hn2 : (pos : Int) < (L2.length : Int) := by omega
          have HS3 := Lib.hid hst3
          clear hst2 hst3 HW q0 q1
          go_wp2_with fail
          go_roundw
          case rel => exact ⟨k' + 2, by omega, by go_num, .inr ⟨k' + 1, rfl, by rw [HMZ.out]⟩, HS3.out⟩
          case measure => simp [intOf]; omega
      · have hkl : k = ks.length := by omega
        subst hkl
        have HS := Lib.hid hst
        clear hst hav
        go_wp2_with fail
        go_ret
        subst hh
        exact ⟨rfl, HS.out⟩
end Go.Proofs.Ytcijjeflojaocaa

