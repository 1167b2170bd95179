/-
  The reader's typePath.
-/
import Derived.Test.YtkjgkchdkeggoaaGreatDoorPath
namespace Go.Proofs.YtkjgkchdkeggoaaGreatDoor
open Go.RowKit
set_option maxRecDepth 20000
set_option linter.unusedVariables false
set_option linter.unusedSimpArgs false

set_option maxHeartbeats 600000 in
theorem rtypePath_any (S : Src) (n d : Nat) (w : World) (h : Rd w S n d) (hd : S.typePath n ≠ .dry) :
    Calls Tryz.prog 75 #[.pointer (some ⟨S.g, 0, none⟩)] w fun e w' => Ends S d w (S.typePath n) (RL w) e w' := by
  unfold Src.typePath at hd ⊢
  have HP := Lib.hid (path2 S n d 7 6 (by decide) (by decide) w h (bind_dry hd))
  clear h hd
  go_enter Tryz.func75, Tryz.ntmps75
  go_wp2_with fail
  refine HP.out.mono ?_
  rintro e w1 (⟨p, n1, v, hpo, rfl, hv, hr, hg⟩ | ⟨ch, ho, rfl, hg⟩)
  · have hlt := path_lt hpo
    obtain ⟨i1, rfl⟩ : ∃ i1, n1 = i1 + 1 := ⟨n1 - 1, by omega⟩
    have HR1 := Lib.hid hr
    have HG1 := Lib.hid hg
    have HV := Lib.hid hv
    have hl := hr.here
    have hil : i1 < S.ts.length := by omega
    have HS : ∀ W, Below w1.heap.size w1 W → W.cell? ⟨S.g, 1, none⟩ = some (.slice (some ⟨S.gw, 0, none⟩) S.ts.length S.cw) ∧ W.cell? ⟨S.g, 2, none⟩ = some (.int .i64 ((i1 + 1 : Nat) : Int)) ∧ W.cell? ⟨S.gw, i1 * 3, none⟩ = some (.int .i64 (S.kd i1)) := fun W hW => by
      have h1 := HR1.out.step hW
      exact ⟨h1.c1, h1.c2, by rw [S.kd_at hil]; exact (h1.toks i1 hil).1⟩
    have hbd := hr.bound
    have hi1 : ((i1 + 1 : Nat) : Int) - 1 = (i1 : Int) := by omega
    have hwr : IntKind.i64.wrap (i1 : Int) = (i1 : Int) := IntWalk.i64_in _ (by omega)
    have hx1 : (0 : Int) ≤ (i1 : Int) := by omega
    have hx2 : (i1 : Int) < (S.ts.length : Int) := by omega
    obtain ⟨pv, nv, cv, rfl⟩ := hv.form
    have hsub : i1 + 1 - 1 = i1 := by omega
    have HPO := Lib.hid hpo
    have HSUB := Lib.hid hsub
    clear hv hr hg hl hpo hsub hlt
    go_wp2_with fail
    by_cases hkd : S.kd i1 = 6
    · have HKT : Hid ((S.kd (i1 + 1 - 1) == 6) = true) := Lib.hid (by rw [HSUB.out]; simp [hkd])
      refine wp_region_till (fun W => Below w1.heap.size w1 W) 14 (by kernel_rfl) ?_
      have hS : Below w1.heap.size w1 w1.drew := (Below.refl w1.heap.size w1).drew
      refine start_fp (N := 23) [(0, .pointer (some ⟨S.g, 0, none⟩))] (Fs.of rfl rfl (by simp [Act.eval])) ?_
      intro a0 ha0 hF
      refine take_fp 0 [14] (oi := { dst := some 7, op := Op.move (Operand.tmp 0), type := 56, pos := "terms.go:205", after := #[], guard := none }) (d := 7) (v := .pointer (some ⟨S.g, 0, none⟩)) hF hS rfl rfl (by decide) (by kernel_rfl) (by kernel_rfl) (by kernel_rfl) (by kernel_rfl) (fun _ _ _ h => h) (fun a' hA => wanted_none rfl) (run_move_fs rfl rfl) ?_
      clear hF
      intro hF
      refine take_fp 1 [2, 3, 4, 10, 11, 12, 13, 14] (oi := { dst := some 8, op := Op.move (Operand.tmp 0), type := 56, pos := "terms.go:205", after := #[], guard := none }) (d := 8) (v := .pointer (some ⟨S.g, 0, none⟩)) hF hS rfl rfl (by decide) (by kernel_rfl) (by kernel_rfl) (by kernel_rfl) (by kernel_rfl) (fun _ _ _ h => h) (fun a' hA => wanted_none rfl) (run_move_fs rfl rfl) ?_
      clear hF
      intro hF
      refine take_fp 2 [3, 4, 10, 11, 12, 13, 14] (oi := { dst := some 9, op := Op.nilCheck (Operand.tmp 8), type := 0, pos := "terms.go:205", after := #[{ on := 1, ground := Ground.data }], guard := none }) (d := 9) (v := .pointer (some ⟨S.g, 0, none⟩)) hF hS rfl rfl (by decide) (by kernel_rfl) (by kernel_rfl) (by kernel_rfl) (by kernel_rfl) (fun _ _ _ h => h) (fun a' hA => wanted_none rfl) (fun a' hA w' hw => by have e8 := hA.get 8 rfl; have ec : ∀ v, a'.eval (.const v) = v := fun _ => rfl; clear hA; generalize a'.eval = ρ at *; simp [go_sem, ec, e8]; try rfl) ?_
      clear hF
      intro hF
      refine take_fp 3 [4, 10, 11, 12, 13, 14] (oi := { dst := some 10, op := Op.fieldAddr 66 (Operand.tmp 9) 1, type := 0, pos := "terms.go:205", after := #[{ on := 2, ground := Ground.data }], guard := none }) (d := 10) (v := .pointer (some ⟨S.g, 1, none⟩)) hF hS rfl rfl (by decide) (by kernel_rfl) (by kernel_rfl) (by kernel_rfl) (by kernel_rfl) (fun _ _ _ h => h) (fun a' hA => wanted_none rfl) (fun a' hA w' hw => by have e9 := hA.get 9 rfl; have ec : ∀ v, a'.eval (.const v) = v := fun _ => rfl; clear hA; generalize a'.eval = ρ at *; simp [go_sem, ec, e9]; try rfl) ?_
      clear hF
      intro hF
      refine take_fp 4 [10, 11, 12, 13, 14] (oi := { dst := some 11, op := Op.load 32 (Operand.tmp 10), type := 32, pos := "terms.go:205", after := #[{ on := 3, ground := Ground.data }], guard := none }) (d := 11) (v := .slice (some ⟨S.gw, 0, none⟩) S.ts.length S.cw) hF hS rfl rfl (by decide) (by kernel_rfl) (by kernel_rfl) (by kernel_rfl) (by kernel_rfl) (fun _ _ _ h => h) (fun a' hA => wanted_none rfl) (fun a' hA w' hw => by have e10 := hA.get 10 rfl; have ec : ∀ v, a'.eval (.const v) = v := fun _ => rfl; obtain ⟨q1, q2, q3⟩ := HS _ hw; clear hA; generalize a'.eval = ρ at *; simp [go_sem, ec, e10, q1]; try rfl) ?_
      clear hF
      intro hF
      refine take_fp 5 [6, 7, 8, 9, 10, 11, 12, 13, 14] (oi := { dst := some 12, op := Op.move (Operand.tmp 0), type := 56, pos := "terms.go:205", after := #[], guard := none }) (d := 12) (v := .pointer (some ⟨S.g, 0, none⟩)) hF hS rfl rfl (by decide) (by kernel_rfl) (by kernel_rfl) (by kernel_rfl) (by kernel_rfl) (fun _ _ _ h => h) (fun a' hA => wanted_none rfl) (run_move_fs rfl rfl) ?_
      clear hF
      intro hF
      refine take_fp 6 [7, 8, 9, 10, 11, 12, 13, 14] (oi := { dst := some 13, op := Op.nilCheck (Operand.tmp 12), type := 0, pos := "terms.go:205", after := #[{ on := 5, ground := Ground.data }], guard := none }) (d := 13) (v := .pointer (some ⟨S.g, 0, none⟩)) hF hS rfl rfl (by decide) (by kernel_rfl) (by kernel_rfl) (by kernel_rfl) (by kernel_rfl) (fun _ _ _ h => h) (fun a' hA => wanted_none rfl) (fun a' hA w' hw => by have e12 := hA.get 12 rfl; have ec : ∀ v, a'.eval (.const v) = v := fun _ => rfl; clear hA; generalize a'.eval = ρ at *; simp [go_sem, ec, e12]; try rfl) ?_
      clear hF
      intro hF
      refine take_fp 7 [8, 9, 10, 11, 12, 13, 14] (oi := { dst := some 14, op := Op.fieldAddr 66 (Operand.tmp 13) 2, type := 0, pos := "terms.go:205", after := #[{ on := 6, ground := Ground.data }], guard := none }) (d := 14) (v := .pointer (some ⟨S.g, 2, none⟩)) hF hS rfl rfl (by decide) (by kernel_rfl) (by kernel_rfl) (by kernel_rfl) (by kernel_rfl) (fun _ _ _ h => h) (fun a' hA => wanted_none rfl) (fun a' hA w' hw => by have e13 := hA.get 13 rfl; have ec : ∀ v, a'.eval (.const v) = v := fun _ => rfl; clear hA; generalize a'.eval = ρ at *; simp [go_sem, ec, e13]; try rfl) ?_
      clear hF
      intro hF
      refine take_fp 8 [9, 10, 11, 12, 13, 14] (oi := { dst := some 15, op := Op.load 3 (Operand.tmp 14), type := 3, pos := "terms.go:205", after := #[{ on := 7, ground := Ground.data }], guard := none }) (d := 15) (v := .int .i64 ((i1 + 1) : Int)) hF hS rfl rfl (by decide) (by kernel_rfl) (by kernel_rfl) (by kernel_rfl) (by kernel_rfl) (fun _ _ _ h => h) (fun a' hA => wanted_none rfl) (fun a' hA w' hw => by have e14 := hA.get 14 rfl; have ec : ∀ v, a'.eval (.const v) = v := fun _ => rfl; obtain ⟨q1, q2, q3⟩ := HS _ hw; clear hA; generalize a'.eval = ρ at *; simp [go_sem, ec, e14, q2]; try rfl) ?_
      clear hF
      intro hF
      refine take_fp 9 [10, 11, 12, 13, 14] (oi := { dst := some 16, op := Op.binOp BinOp.sub 3 (Operand.tmp 15) (Operand.const (Value.int IntKind.i64 1)) 3, type := 3, pos := "terms.go:205", after := #[{ on := 8, ground := Ground.data }], guard := none }) (d := 16) (v := .int .i64 (i1 : Int)) hF hS rfl rfl (by decide) (by kernel_rfl) (by kernel_rfl) (by kernel_rfl) (by kernel_rfl) (fun _ _ _ h => h) (fun a' hA => wanted_none rfl) (fun a' hA w' hw => by have e15 := hA.get 15 rfl; have ec : ∀ v, a'.eval (.const v) = v := fun _ => rfl; clear hA; generalize a'.eval = ρ at *; simp [go_sem, ec, e15, hi1, hwr]; try rfl) ?_
      clear hF
      intro hF
      refine take_fp 10 [11, 12, 13, 14] (oi := { dst := some 17, op := Op.indexAddr 32 (Operand.tmp 11) (Operand.tmp 16), type := 0, pos := "terms.go:205", after := #[{ on := 4, ground := Ground.data }, { on := 9, ground := Ground.data }], guard := none }) (d := 17) (v := .pointer (some ⟨S.gw, i1 * 3, none⟩)) hF hS rfl rfl (by decide) (by kernel_rfl) (by kernel_rfl) (by kernel_rfl) (by kernel_rfl) (fun _ _ _ h => h) (fun a' hA => wanted_none rfl) (fun a' hA w' hw => by have e11 := hA.get 11 rfl; have e16 := hA.get 16 rfl; have ec : ∀ v, a'.eval (.const v) = v := fun _ => rfl; clear hA; generalize a'.eval = ρ at *; simp [go_sem, ec, e11, e16, hx1, hx2]; try rfl) ?_
      clear hF
      intro hF
      refine take_fp 11 [12, 13, 14] (oi := { dst := some 18, op := Op.fieldAddr 39 (Operand.tmp 17) 0, type := 0, pos := "terms.go:205", after := #[{ on := 10, ground := Ground.data }], guard := none }) (d := 18) (v := .pointer (some ⟨S.gw, i1 * 3, none⟩)) hF hS rfl rfl (by decide) (by kernel_rfl) (by kernel_rfl) (by kernel_rfl) (by kernel_rfl) (fun _ _ _ h => h) (fun a' hA => wanted_none rfl) (fun a' hA w' hw => by have e17 := hA.get 17 rfl; have ec : ∀ v, a'.eval (.const v) = v := fun _ => rfl; clear hA; generalize a'.eval = ρ at *; simp [go_sem, ec, e17]; try rfl) ?_
      clear hF
      intro hF
      refine take_fp 12 [13, 14] (oi := { dst := some 19, op := Op.load 3 (Operand.tmp 18), type := 3, pos := "terms.go:205", after := #[{ on := 11, ground := Ground.data }], guard := none }) (d := 19) (v := .int .i64 (S.kd i1)) hF hS rfl rfl (by decide) (by kernel_rfl) (by kernel_rfl) (by kernel_rfl) (by kernel_rfl) (fun _ _ _ h => h) (fun a' hA => wanted_none rfl) (fun a' hA w' hw => by have e18 := hA.get 18 rfl; have ec : ∀ v, a'.eval (.const v) = v := fun _ => rfl; obtain ⟨q1, q2, q3⟩ := HS _ hw; clear hA; generalize a'.eval = ρ at *; simp [go_sem, ec, e18, q3]; try rfl) ?_
      clear hF
      intro hF
      refine take_fp 13 [14] (oi := { dst := some 20, op := Op.binOp BinOp.eql 3 (Operand.tmp 19) (Operand.const (Value.int IntKind.i64 6)) 3, type := 4, pos := "terms.go:205", after := #[{ on := 12, ground := Ground.data }], guard := none }) (d := 20) (v := .bool true) hF hS rfl rfl (by decide) (by kernel_rfl) (by kernel_rfl) (by kernel_rfl) (by kernel_rfl) (fun _ _ _ h => h) (fun a' hA => wanted_none rfl) (fun a' hA w' hw => by have e19 := hA.get 19 rfl; have ec : ∀ v, a'.eval (.const v) = v := fun _ => rfl; clear hA; generalize a'.eval = ρ at *; simp [go_sem, ec, e19, hkd]; try rfl) ?_
      clear hF
      intro hF
      refine call_fp 14 (oi := { dst := some 21, op := Op.call { callee := Callee.value (Operand.func 36), args := #[Operand.tmp 7, Operand.tmp 20], argTypes := #[56, 4] }, type := 0, pos := "terms.go:205", after := #[{ on := 0, ground := Ground.data }, { on := 13, ground := Ground.data }], guard := none }) (d := 21) (R := fun e w' => e = .returned (.tuple #[]) ∧ w1.drew = w') hF rfl rfl (by decide) (by kernel_rfl) (fun a' hA => wanted_none rfl) (fun a' hA => by have e7 := hA.get 7 rfl; have e20 := hA.get 20 rfl; have ef : ∀ f, a'.eval (.func f) = .func (.func f) #[] #[] := fun _ => rfl; have ec : ∀ v, a'.eval (.const v) = v := fun _ => rfl; clear hA; generalize a'.eval = ρ at *; simp [go_sem, ef, ec, e7, e20]) (expect_yes S (i1 + 1) d w1.drew (HR1.out.step hS)) (by rintro w' ⟨h, _⟩; cases h) ?_ ?_
      · rintro ch w' ⟨h, _⟩
        cases h
      · rintro v w' ⟨h, rfl⟩
        have h := Ending.returned.inj h
        subst h
        refine ⟨fun h => absurd h (by decide), fun hF => wpTill_done (by kernel_rfl) ?_ _⟩
        subst ha0
        simp only [Act.put, List.setIfInBounds_toArray, List.set_cons_zero, List.set_cons_succ]
        have HSX := Lib.hid hS
        clear hF hS HS hkd hwr hi1
        go_wp2_with fail
        go_ret
        have hS := HSX.out
        exact Or.inl ⟨p, (i1 + 1), _, by rw [HPO.out]; simp only [Out.bind, HKT.out, cond_true], rfl, HV.out.step hS, HR1.out.step hS, grown_trans HG1.out (grown_below hS _)⟩
    · have HKF : Hid ((S.kd (i1 + 1 - 1) == 6) = false) := Lib.hid (by rw [HSUB.out]; simp [hkd])
      refine wp_region_till (fun W => Below w1.heap.size w1 W) 14 (by kernel_rfl) ?_
      have hS : Below w1.heap.size w1 w1.drew := (Below.refl w1.heap.size w1).drew
      refine start_fp (N := 23) [(0, .pointer (some ⟨S.g, 0, none⟩))] (Fs.of rfl rfl (by simp [Act.eval])) ?_
      intro a0 ha0 hF
      refine take_fp 0 [14] (oi := { dst := some 7, op := Op.move (Operand.tmp 0), type := 56, pos := "terms.go:205", after := #[], guard := none }) (d := 7) (v := .pointer (some ⟨S.g, 0, none⟩)) hF hS rfl rfl (by decide) (by kernel_rfl) (by kernel_rfl) (by kernel_rfl) (by kernel_rfl) (fun _ _ _ h => h) (fun a' hA => wanted_none rfl) (run_move_fs rfl rfl) ?_
      clear hF
      intro hF
      refine take_fp 1 [2, 3, 4, 10, 11, 12, 13, 14] (oi := { dst := some 8, op := Op.move (Operand.tmp 0), type := 56, pos := "terms.go:205", after := #[], guard := none }) (d := 8) (v := .pointer (some ⟨S.g, 0, none⟩)) hF hS rfl rfl (by decide) (by kernel_rfl) (by kernel_rfl) (by kernel_rfl) (by kernel_rfl) (fun _ _ _ h => h) (fun a' hA => wanted_none rfl) (run_move_fs rfl rfl) ?_
      clear hF
      intro hF
      refine take_fp 2 [3, 4, 10, 11, 12, 13, 14] (oi := { dst := some 9, op := Op.nilCheck (Operand.tmp 8), type := 0, pos := "terms.go:205", after := #[{ on := 1, ground := Ground.data }], guard := none }) (d := 9) (v := .pointer (some ⟨S.g, 0, none⟩)) hF hS rfl rfl (by decide) (by kernel_rfl) (by kernel_rfl) (by kernel_rfl) (by kernel_rfl) (fun _ _ _ h => h) (fun a' hA => wanted_none rfl) (fun a' hA w' hw => by have e8 := hA.get 8 rfl; have ec : ∀ v, a'.eval (.const v) = v := fun _ => rfl; clear hA; generalize a'.eval = ρ at *; simp [go_sem, ec, e8]; try rfl) ?_
      clear hF
      intro hF
      refine take_fp 3 [4, 10, 11, 12, 13, 14] (oi := { dst := some 10, op := Op.fieldAddr 66 (Operand.tmp 9) 1, type := 0, pos := "terms.go:205", after := #[{ on := 2, ground := Ground.data }], guard := none }) (d := 10) (v := .pointer (some ⟨S.g, 1, none⟩)) hF hS rfl rfl (by decide) (by kernel_rfl) (by kernel_rfl) (by kernel_rfl) (by kernel_rfl) (fun _ _ _ h => h) (fun a' hA => wanted_none rfl) (fun a' hA w' hw => by have e9 := hA.get 9 rfl; have ec : ∀ v, a'.eval (.const v) = v := fun _ => rfl; clear hA; generalize a'.eval = ρ at *; simp [go_sem, ec, e9]; try rfl) ?_
      clear hF
      intro hF
      refine take_fp 4 [10, 11, 12, 13, 14] (oi := { dst := some 11, op := Op.load 32 (Operand.tmp 10), type := 32, pos := "terms.go:205", after := #[{ on := 3, ground := Ground.data }], guard := none }) (d := 11) (v := .slice (some ⟨S.gw, 0, none⟩) S.ts.length S.cw) hF hS rfl rfl (by decide) (by kernel_rfl) (by kernel_rfl) (by kernel_rfl) (by kernel_rfl) (fun _ _ _ h => h) (fun a' hA => wanted_none rfl) (fun a' hA w' hw => by have e10 := hA.get 10 rfl; have ec : ∀ v, a'.eval (.const v) = v := fun _ => rfl; obtain ⟨q1, q2, q3⟩ := HS _ hw; clear hA; generalize a'.eval = ρ at *; simp [go_sem, ec, e10, q1]; try rfl) ?_
      clear hF
      intro hF
      refine take_fp 5 [6, 7, 8, 9, 10, 11, 12, 13, 14] (oi := { dst := some 12, op := Op.move (Operand.tmp 0), type := 56, pos := "terms.go:205", after := #[], guard := none }) (d := 12) (v := .pointer (some ⟨S.g, 0, none⟩)) hF hS rfl rfl (by decide) (by kernel_rfl) (by kernel_rfl) (by kernel_rfl) (by kernel_rfl) (fun _ _ _ h => h) (fun a' hA => wanted_none rfl) (run_move_fs rfl rfl) ?_
      clear hF
      intro hF
      refine take_fp 6 [7, 8, 9, 10, 11, 12, 13, 14] (oi := { dst := some 13, op := Op.nilCheck (Operand.tmp 12), type := 0, pos := "terms.go:205", after := #[{ on := 5, ground := Ground.data }], guard := none }) (d := 13) (v := .pointer (some ⟨S.g, 0, none⟩)) hF hS rfl rfl (by decide) (by kernel_rfl) (by kernel_rfl) (by kernel_rfl) (by kernel_rfl) (fun _ _ _ h => h) (fun a' hA => wanted_none rfl) (fun a' hA w' hw => by have e12 := hA.get 12 rfl; have ec : ∀ v, a'.eval (.const v) = v := fun _ => rfl; clear hA; generalize a'.eval = ρ at *; simp [go_sem, ec, e12]; try rfl) ?_
      clear hF
      intro hF
      refine take_fp 7 [8, 9, 10, 11, 12, 13, 14] (oi := { dst := some 14, op := Op.fieldAddr 66 (Operand.tmp 13) 2, type := 0, pos := "terms.go:205", after := #[{ on := 6, ground := Ground.data }], guard := none }) (d := 14) (v := .pointer (some ⟨S.g, 2, none⟩)) hF hS rfl rfl (by decide) (by kernel_rfl) (by kernel_rfl) (by kernel_rfl) (by kernel_rfl) (fun _ _ _ h => h) (fun a' hA => wanted_none rfl) (fun a' hA w' hw => by have e13 := hA.get 13 rfl; have ec : ∀ v, a'.eval (.const v) = v := fun _ => rfl; clear hA; generalize a'.eval = ρ at *; simp [go_sem, ec, e13]; try rfl) ?_
      clear hF
      intro hF
      refine take_fp 8 [9, 10, 11, 12, 13, 14] (oi := { dst := some 15, op := Op.load 3 (Operand.tmp 14), type := 3, pos := "terms.go:205", after := #[{ on := 7, ground := Ground.data }], guard := none }) (d := 15) (v := .int .i64 ((i1 + 1) : Int)) hF hS rfl rfl (by decide) (by kernel_rfl) (by kernel_rfl) (by kernel_rfl) (by kernel_rfl) (fun _ _ _ h => h) (fun a' hA => wanted_none rfl) (fun a' hA w' hw => by have e14 := hA.get 14 rfl; have ec : ∀ v, a'.eval (.const v) = v := fun _ => rfl; obtain ⟨q1, q2, q3⟩ := HS _ hw; clear hA; generalize a'.eval = ρ at *; simp [go_sem, ec, e14, q2]; try rfl) ?_
      clear hF
      intro hF
      refine take_fp 9 [10, 11, 12, 13, 14] (oi := { dst := some 16, op := Op.binOp BinOp.sub 3 (Operand.tmp 15) (Operand.const (Value.int IntKind.i64 1)) 3, type := 3, pos := "terms.go:205", after := #[{ on := 8, ground := Ground.data }], guard := none }) (d := 16) (v := .int .i64 (i1 : Int)) hF hS rfl rfl (by decide) (by kernel_rfl) (by kernel_rfl) (by kernel_rfl) (by kernel_rfl) (fun _ _ _ h => h) (fun a' hA => wanted_none rfl) (fun a' hA w' hw => by have e15 := hA.get 15 rfl; have ec : ∀ v, a'.eval (.const v) = v := fun _ => rfl; clear hA; generalize a'.eval = ρ at *; simp [go_sem, ec, e15, hi1, hwr]; try rfl) ?_
      clear hF
      intro hF
      refine take_fp 10 [11, 12, 13, 14] (oi := { dst := some 17, op := Op.indexAddr 32 (Operand.tmp 11) (Operand.tmp 16), type := 0, pos := "terms.go:205", after := #[{ on := 4, ground := Ground.data }, { on := 9, ground := Ground.data }], guard := none }) (d := 17) (v := .pointer (some ⟨S.gw, i1 * 3, none⟩)) hF hS rfl rfl (by decide) (by kernel_rfl) (by kernel_rfl) (by kernel_rfl) (by kernel_rfl) (fun _ _ _ h => h) (fun a' hA => wanted_none rfl) (fun a' hA w' hw => by have e11 := hA.get 11 rfl; have e16 := hA.get 16 rfl; have ec : ∀ v, a'.eval (.const v) = v := fun _ => rfl; clear hA; generalize a'.eval = ρ at *; simp [go_sem, ec, e11, e16, hx1, hx2]; try rfl) ?_
      clear hF
      intro hF
      refine take_fp 11 [12, 13, 14] (oi := { dst := some 18, op := Op.fieldAddr 39 (Operand.tmp 17) 0, type := 0, pos := "terms.go:205", after := #[{ on := 10, ground := Ground.data }], guard := none }) (d := 18) (v := .pointer (some ⟨S.gw, i1 * 3, none⟩)) hF hS rfl rfl (by decide) (by kernel_rfl) (by kernel_rfl) (by kernel_rfl) (by kernel_rfl) (fun _ _ _ h => h) (fun a' hA => wanted_none rfl) (fun a' hA w' hw => by have e17 := hA.get 17 rfl; have ec : ∀ v, a'.eval (.const v) = v := fun _ => rfl; clear hA; generalize a'.eval = ρ at *; simp [go_sem, ec, e17]; try rfl) ?_
      clear hF
      intro hF
      refine take_fp 12 [13, 14] (oi := { dst := some 19, op := Op.load 3 (Operand.tmp 18), type := 3, pos := "terms.go:205", after := #[{ on := 11, ground := Ground.data }], guard := none }) (d := 19) (v := .int .i64 (S.kd i1)) hF hS rfl rfl (by decide) (by kernel_rfl) (by kernel_rfl) (by kernel_rfl) (by kernel_rfl) (fun _ _ _ h => h) (fun a' hA => wanted_none rfl) (fun a' hA w' hw => by have e18 := hA.get 18 rfl; have ec : ∀ v, a'.eval (.const v) = v := fun _ => rfl; obtain ⟨q1, q2, q3⟩ := HS _ hw; clear hA; generalize a'.eval = ρ at *; simp [go_sem, ec, e18, q3]; try rfl) ?_
      clear hF
      intro hF
      refine take_fp 13 [14] (oi := { dst := some 20, op := Op.binOp BinOp.eql 3 (Operand.tmp 19) (Operand.const (Value.int IntKind.i64 6)) 3, type := 4, pos := "terms.go:205", after := #[{ on := 12, ground := Ground.data }], guard := none }) (d := 20) (v := .bool false) hF hS rfl rfl (by decide) (by kernel_rfl) (by kernel_rfl) (by kernel_rfl) (by kernel_rfl) (fun _ _ _ h => h) (fun a' hA => wanted_none rfl) (fun a' hA w' hw => by have e19 := hA.get 19 rfl; have ec : ∀ v, a'.eval (.const v) = v := fun _ => rfl; clear hA; generalize a'.eval = ρ at *; simp [go_sem, ec, e19, hkd]; try rfl) ?_
      clear hF
      intro hF
      refine call_fp 14 (oi := { dst := some 21, op := Op.call { callee := Callee.value (Operand.func 36), args := #[Operand.tmp 7, Operand.tmp 20], argTypes := #[56, 4] }, type := 0, pos := "terms.go:205", after := #[{ on := 0, ground := Ground.data }, { on := 13, ground := Ground.data }], guard := none }) (d := 21) (R := fun e w' => e = .panicked [{ v := .iface 63 (.int .i64 (S.pl (i1 + 1))), recovered := false }] ∧ Below w1.drew.heap.size w1.drew w') hF rfl rfl (by decide) (by kernel_rfl) (fun a' hA => wanted_none rfl) (fun a' hA => by have e7 := hA.get 7 rfl; have e20 := hA.get 20 rfl; have ef : ∀ f, a'.eval (.func f) = .func (.func f) #[] #[] := fun _ => rfl; have ec : ∀ v, a'.eval (.const v) = v := fun _ => rfl; clear hA; generalize a'.eval = ρ at *; simp [go_sem, ef, ec, e7, e20]) (expect_no S (i1 + 1) d w1.drew (HR1.out.step hS)) (by rintro w' ⟨h, _⟩; cases h) ?_ ?_
      · rintro ch w' ⟨h, hb⟩
        have h := Ending.panicked.inj h
        subst h
        have hE : Ends S d w ((S.path [7, 6] n).bind fun p n' => bif S.kd (n' - 1) == 6 then Out.ok p n' else Out.form n') (RL w) (.panicked [{ v := .iface 63 (.int .i64 (S.pl (i1 + 1))), recovered := false }]) w' := by
          refine Or.inr ⟨[{ v := .iface 63 (.int .i64 (S.pl (i1 + 1))), recovered := false }], ?_, rfl, grown_trans HG1.out (grown_below (hS.trans (hb.mono hS.size)) _)⟩
          rw [HPO.out]
          simp only [Out.bind, HKF.out, cond_false, Out.pan]
        have hq : bodyPost Tryz.prog Tryz.f75 (fun e w' => Ends S d w ((S.path [7, 6] n).bind fun p n' => bif S.kd (n' - 1) == 6 then Out.ok p n' else Out.form n') (RL w) e w') (.panic [{ v := .iface 63 (.int .i64 (S.pl (i1 + 1))), recovered := false }]) _ w' := ⟨hF.2.1, hE⟩
        exact hq
      · rintro v w' ⟨h, _⟩
        cases h
  · exact ⟨rfl, Or.inr ⟨ch, pan_bind ho, rfl, hg⟩⟩
end Go.Proofs.YtkjgkchdkeggoaaGreatDoor
