/-
  The chapter's example (alive).
-/
import Derived.Test.YtpgmlagkpigdjaaTww
namespace Go.Proofs.Ytpgmlagkpigdjaa
open Go.RowKit
set_option maxRecDepth 20000
set_option linter.unusedVariables false
set_option linter.unusedSimpArgs false

def kx : Ky := (1, ⟨#[120]⟩)
def ky : Ky := (1, ⟨#[121]⟩)
theorem kx_ne : ¬ kx = ky := by decide
def ib (k : Ky) (d : Int) : Bi := ⟨k, d, 0, none, none⟩
theorem vis_ex : (vis [ib kx 1, ib ky 2, ib kx 3]).map (·.k) = [ky, kx] := by decide
theorem vis_ex2 : (vis [ib ky 2, ib kx 3]).map (·.k) = [ky, kx] := by decide
/-- The three links. -/
theorem ex_links {n1 n2 n3 : List Bd} (h1 : n1.map (·.bi) = [ib kx 1]) (h2 : n2.map (·.bi) = [ib ky 2]) (h3 : n3.map (·.bi) = [ib kx 3]) : ∃ b1 b2 b3, n1 = [b1] ∧ n2 = [b2] ∧ n3 = [b3] ∧ b1.bi = ib kx 1 ∧ b2.bi = ib ky 2 ∧ b3.bi = ib kx 3 := by
  have one : ∀ (l : List Bd) (b : Bi), l.map (·.bi) = [b] → ∃ c, l = [c] ∧ c.bi = b := fun l b h => by
    match l, h with
    | [c], h => exact ⟨c, rfl, by simpa using h⟩
    | [], h => simp at h
    | _ :: _ :: _, h => simp at h
  obtain ⟨b1, e1, f1⟩ := one _ _ h1
  obtain ⟨b2, e2, f2⟩ := one _ _ h2
  obtain ⟨b3, e3, f3⟩ := one _ _ h3
  exact ⟨b1, b2, b3, e1, e2, e3, f1, f2, f3⟩
set_option maxHeartbeats 8000000 in
theorem alive_any (w : World) : Calls Try.prog 7 #[] w fun e w' => e = .returned (.bool true) ∧ Below w.heap.size w w' := by
  obtain ⟨wa, hwa⟩ : ∃ wa, wa = (w.alloc (.cells #[.int .i64 1, .string ⟨#[120]⟩] 31)).alloc (.cells #[.int .i64 1, .string ⟨#[121]⟩] 31) := ⟨_, rfl⟩
  have hba : Below w.heap.size w wa := by rw [hwa]; exact ((Below.refl _ _).alloc (Nat.le_refl _) _).alloc (by simp) _
  have hx : wa.heap[w.heap.size]? = some (.cells #[.int .i64 1, .string ⟨#[120]⟩] 31 (0, 0)) := by rw [hwa]; exact heap_step (heap_new _ _) ((Below.refl _ _).alloc (Nat.le_refl _) _)
  have hy : wa.heap[w.heap.size + 1]? = some (.cells #[.int .i64 1, .string ⟨#[121]⟩] 31 (0, 0)) := by
    rw [hwa, show w.heap.size + 1 = (w.alloc (.cells #[.int .i64 1, .string ⟨#[120]⟩] 31)).heap.size by simp]; exact heap_new _ _
  have HXY : Hid (∀ W, Below wa.heap.size wa W → W.cell? ⟨w.heap.size, 0, none⟩ = some (.int .i64 1) ∧ W.cell? ⟨w.heap.size, 1, none⟩ = some (.string ⟨#[120]⟩) ∧ W.cell? ⟨w.heap.size + 1, 0, none⟩ = some (.int .i64 1) ∧ W.cell? ⟨w.heap.size + 1, 1, none⟩ = some (.string ⟨#[121]⟩)) := Lib.hid fun W hW =>
    ⟨(cellH (heap_step hx hW) 0).trans rfl, (cellH (heap_step hx hW) 1).trans rfl, (cellH (heap_step hy hW) 0).trans rfl, (cellH (heap_step hy hW) 1).trans rfl⟩
  have HW1 : Hid (∀ W, W = wa → Calls Try.prog 19 #[.pointer none, .agg #[.int .i64 1, .string ⟨#[120]⟩], .agg #[.int .i64 1, .int .i64 0, .pointer none, .pointer none]] W (AndPost wa [] [ib kx 1])) := Lib.hid fun W hW => by
    rw [hW]; exact with19_any wa none [] (ib kx 1) (EnvAt.nil _) (by simp)
  have HW2 : Hid (∀ W p l, Below wa.heap.size wa W → EnvAt W p l → l.length + 1 ≤ 900000 → Calls Try.prog 19 #[.pointer p, .agg #[.int .i64 1, .string ⟨#[121]⟩], .agg #[.int .i64 2, .int .i64 0, .pointer none, .pointer none]] W (AndPost W l [ib ky 2])) := Lib.hid fun W p l _ hp hl => with19_any W p l (ib ky 2) hp hl
  have HW3 : Hid (∀ W p l, Below wa.heap.size wa W → EnvAt W p l → l.length + 1 ≤ 900000 → Calls Try.prog 19 #[.pointer p, .agg #[.int .i64 1, .string ⟨#[120]⟩], .agg #[.int .i64 3, .int .i64 0, .pointer none, .pointer none]] W (AndPost W l [ib kx 3])) := Lib.hid fun W p l _ hp hl => with19_any W p l (ib kx 3) hp hl
  have HWA := Lib.hid hwa
  have HBA := Lib.hid hba
  clear hba hx hy hwa
  go_enter Try.func7, Try.ntmps7
  go_wp2_with (go_at_call 19; refine (HW1.out _ HWA.out.symm).mono ?_; rintro e w1 ⟨pa, n1, rfl, ha1, hm1, hl1, hb1⟩; have HA1 := Lib.hid ha1; have HM1 := Lib.hid hm1; have HB1 := Lib.hid hb1; obtain ⟨x0, x1, x2, x3⟩ := HXY.out w1 hb1; clear ha1 hm1 hl1 hb1)
  have HXY1 := Lib.hid (fun W (hW : Below w1.heap.size w1 W) => HXY.out W (HB1.out.trans (hW.mono HB1.out.size)))
  have hn1 : n1.length = 1 := by have := congrArg List.length HM1.out; simpa using this
  have HN1 := Lib.hid hn1
  have hd1 := below_d w1
  clear hn1
  go_region_held3 (fun W => W.cell? ⟨w.heap.size, 0, none⟩ = some (.int .i64 1) ∧ W.cell? ⟨w.heap.size, 1, none⟩ = some (.string ⟨#[120]⟩) ∧ W.cell? ⟨w.heap.size + 1, 0, none⟩ = some (.int .i64 1) ∧ W.cell? ⟨w.heap.size + 1, 1, none⟩ = some (.string ⟨#[121]⟩)) (first | exact HXY1.out _ hd1 | exact ⟨y0, y1, y2, y3⟩ | go_keep) (first
    | (go_at_call 19; have hb2x := HB2.out; clear hb2x; refine (HW3.out _ _ _ HBB2.out HA2.out HL2.out).mono ?_; rintro e w3 ⟨p3, n3, rfl, ha3, hm3, hl3, hb3⟩; have HA3 := Lib.hid ha3; have HM3 := Lib.hid hm3; have HB3 := Lib.hid hb3; have HLO3 := Lib.hid hl3; obtain ⟨y0, y1, y2, y3⟩ := HXY.out w3 (HBB2.out.trans (hb3.mono HBB2.out.size)); clear ha3 hm3 hl3 hb3)
    | (go_at_call 19; refine (HW2.out _ _ _ (HB1.out.trans (hd1.mono HB1.out.size)) (HA1.out.step hd1) (by have := HN1.out; simp; omega)).mono ?_; rintro e w2 ⟨p2, n2, rfl, ha2, hm2, hl2, hb2⟩; have HA2 := Lib.hid ha2; have HM2 := Lib.hid hm2; have HLO2 := Lib.hid hl2; have HB2 := Lib.hid hb2; have HBB2 := Lib.hid (HB1.out.trans ((hd1.trans (hb2.mono (Nat.le_refl _))).mono HB1.out.size)); have HL2 : Hid ((n2 ++ (n1 ++ [])).length + 1 ≤ 900000) := Lib.hid (by have h1 := HN1.out; have h2 := congrArg List.length hm2; simp at h2; simp; omega); obtain ⟨y0, y1, y2, y3⟩ := HXY.out w2 HBB2.out; clear ha2 hm2 hl2 hb2))
  all_goals
    obtain ⟨b1, b2, b3, e1, e2, e3, f1, f2, f3⟩ := ex_links HM1.out HM2.out HM3.out
    have hd2 := HBB2.out
    have h3 := HA3.out
    have h1 := (HA1.out.step hd1).step ((HB2.out.trans (HB3.out.mono HB2.out.size)))
    rw [e1, e2, e3] at h3
    rw [e1] at h1
    have hdec := h3.dec
    simp only [List.cons_append, List.nil_append] at h3 hdec h1
    have hne1 : ¬ b3.lk = b1.lk := by have := (List.pairwise_cons.1 hdec).1 b1 (by simp); omega
    have hne2 : ¬ b2.lk = b1.lk := by have := (List.pairwise_cons.1 (List.pairwise_cons.1 hdec).2).1 b1 (by simp); omega
    have HKS : Hid (∀ W, Below w3.heap.size w3 W → Calls Try.prog 10 #[.pointer p3] W (KeysPost W [ky, kx])) := Lib.hid fun W hW => by
      have := keys_any W p3 [b3, b2, b1] (h3.step hW) (by simp)
      rw [show (vis (([b3, b2, b1].map (·.bi)).reverse)).map (·.k) = [ky, kx] by
        simp only [List.map_cons, List.map_nil, f1, f2, f3]; exact vis_ex] at this
      exact this
    have HFD : Hid (∀ W, Below w3.heap.size w3 W → Calls Try.prog 11 #[.pointer p3, .agg #[.int .i64 1, .string ⟨#[120]⟩]] W (FindPost W (some b3))) := Lib.hid fun W hW => by
      have := find_any W p3 [b3, b2, b1] kx (h3.step hW)
      rw [show look [b3, b2, b1] kx = some b3 by simp [look, Bd.k, f3, ib]] at this
      exact this
    have HSN : Hid (∀ W, Below w3.heap.size w3 W → Calls Try.prog 14 #[.pointer p3, .pointer pa] W (AndPost W [] [ib ky 2, ib kx 3])) := Lib.hid fun W hW => by
      have := since_any W p3 pa [b3, b2, b1] [b1] 2 (h3.step hW) (h1.step hW) (by simp) (by simp) (fun i b hi hb => by
        match i, hi, hb with
        | 0, _, hb => simp only [List.getElem?_cons_zero, Option.some.injEq] at hb; subst hb; simp [tb, hne1]
        | 1, _, hb => simp only [List.getElem?_cons_succ, List.getElem?_cons_zero, Option.some.injEq] at hb; subst hb; simp [tb, hne2]
        | 2, _, hb => simp only [List.getElem?_cons_succ, List.getElem?_cons_zero, Option.some.injEq] at hb; subst hb; simp [tb])
      rw [show (([b3, b2, b1].take 2).map (·.bi)).reverse = [ib ky 2, ib kx 3] by simp [f2, f3]] at this
      exact this
    have HK2 : Hid (∀ W p n, EnvAt W p (n ++ []) → n.map (·.bi) = [ib ky 2, ib kx 3].reverse → Calls Try.prog 10 #[.pointer p] W (KeysPost W [ky, kx])) := Lib.hid fun W p n hp hn => by
      rw [List.append_nil] at hp
      have hl := congrArg List.length hn
      have := keys_any W p n hp (by simp at hl; omega)
      rw [hn, List.reverse_reverse, vis_ex2] at this
      exact this
    have HK0 : Hid (∀ W, Calls Try.prog 10 #[.pointer none] W (KeysPost W [])) := Lib.hid fun W => keys_any W none [] (EnvAt.nil W) (by simp)
    have HDC : Hid (itO (some b3) = .agg #[.int .i64 3, .int .i64 0, .pointer none, .pointer none]) := Lib.hid (by simp [itO, f3, ib])
    have HB3a := Lib.hid (HBB2.out.trans (HB3.out.mono HBB2.out.size))
    clear e1 e2 e3 f1 f2 f3 hd1 hd2 h1 h3 hdec hne1 hne2 x0 x1 x2 x3
    go_wp2_with (first
      | (go_at_call 10; refine (HKS.out _ (Below.refl _ _)).mono ?_; rintro e w4 ⟨v4, rfl, ho4, hb4⟩; have hsl := ho4.slice; simp only [reduceCtorEq, and_false, false_or] at hsl; obtain ⟨gk, ck, rfl, hgk0, hgk, hck⟩ := hsl; have HO4 := Lib.hid ho4; have HB4 := Lib.hid hb4; obtain ⟨y0, y1, y2, y3⟩ := HXY.out w4 (HB3a.out.trans (hb4.mono HB3a.out.size)); clear ho4 hb4 hgk0)
      | (go_at_call 11; refine (HFD.out _ HB4.out).mono ?_; rintro e w5 ⟨rfl, hb5⟩; rw [HDC.out]; simp only [Option.isSome]; have HB5 := Lib.hid hb5; obtain ⟨y0, y1, y2, y3⟩ := HXY.out w5 (HB3a.out.trans ((HB4.out.trans (hb5.mono HB4.out.size)).mono HB3a.out.size)); clear hb5))
    generalize hWZ : w5.alloc (.cells #[.int .i64 3, .int .i64 0, .pointer none, .pointer none] 33) = WZ
    have HZ5 : Hid (Below w5.heap.size w5 WZ) := Lib.hid (by rw [← hWZ]; exact (Below.refl _ _).alloc (Nat.le_refl _) _)
    have HZ4 := Lib.hid (HB5.out.trans (HZ5.out.mono HB5.out.size))
    have HZ3 := Lib.hid (HB4.out.trans (HZ4.out.mono HB4.out.size))
    have HZA := Lib.hid (HB3a.out.trans (HZ3.out.mono HB3a.out.size))
    have HZN : Hid (WZ.heap[w5.heap.size]? = some (.cells #[.int .i64 3, .int .i64 0, .pointer none, .pointer none] 33 (0, 0))) := Lib.hid (by rw [← hWZ]; exact heap_new _ _)
    have HZ : Hid (∀ W, Below WZ.heap.size WZ W → W.cell? ⟨w.heap.size, 0, none⟩ = some (.int .i64 1) ∧ W.cell? ⟨w.heap.size, 1, none⟩ = some (.string ⟨#[120]⟩) ∧ W.cell? ⟨w.heap.size + 1, 0, none⟩ = some (.int .i64 1) ∧ W.cell? ⟨w.heap.size + 1, 1, none⟩ = some (.string ⟨#[121]⟩) ∧ W.cell? ⟨gk, 0, none⟩ = some (.int .i64 1) ∧ W.cell? ⟨gk, 1, none⟩ = some (.string ⟨#[121]⟩) ∧ W.cell? ⟨gk, 2, none⟩ = some (.int .i64 1) ∧ W.cell? ⟨gk, 3, none⟩ = some (.string ⟨#[120]⟩) ∧ W.cell? ⟨w5.heap.size, 0, none⟩ = some (.int .i64 3)) := Lib.hid fun W hW => by
      obtain ⟨q0, q1, q2, q3⟩ := HXY.out W (HZA.out.trans (hW.mono HZA.out.size))
      have hO := HO4.out.step (HZ4.out.trans (hW.mono HZ4.out.size))
      obtain ⟨r0, r1⟩ := hO.at_ 0 ky rfl
      obtain ⟨r2, r3⟩ := hO.at_ 1 kx rfl
      exact ⟨q0, q1, q2, q3, r0, r1, r2, r3, (cellH (heap_step HZN.out hW) 0).trans rfl⟩
    have hq1 : ∀ W, (binOp .eql 31 (.agg #[.int .i64 1, .string ⟨#[120]⟩]) (.agg #[.int .i64 1, .string ⟨#[120]⟩])).run Try.prog W = .ok (.bool true) W := fun W => by
      have := key31_eq kx kx W
      simp only [binOp]
      simp [keyV, kx] at this
      simp [this]
    have hq2 : ∀ W, (binOp .eql 31 (.agg #[.int .i64 1, .string ⟨#[121]⟩]) (.agg #[.int .i64 1, .string ⟨#[121]⟩])).run Try.prog W = .ok (.bool true) W := fun W => by
      have := key31_eq ky ky W
      simp only [binOp]
      simp [keyV, ky] at this
      simp [this]
    have hgk2 : gk < w5.heap.size := Nat.lt_of_lt_of_le hgk HB5.out.size
    clear y0 y1 y2 y3 hWZ
    have hdz := below_d WZ
    have HDZ3 := Lib.hid (HZ3.out.trans (hdz.mono HZ3.out.size))
    go_region_held3 (fun W => W.cell? ⟨w.heap.size, 0, none⟩ = some (.int .i64 1) ∧ W.cell? ⟨w.heap.size, 1, none⟩ = some (.string ⟨#[120]⟩) ∧ W.cell? ⟨w.heap.size + 1, 0, none⟩ = some (.int .i64 1) ∧ W.cell? ⟨w.heap.size + 1, 1, none⟩ = some (.string ⟨#[121]⟩) ∧ W.cell? ⟨gk, 0, none⟩ = some (.int .i64 1) ∧ W.cell? ⟨gk, 1, none⟩ = some (.string ⟨#[121]⟩) ∧ W.cell? ⟨gk, 2, none⟩ = some (.int .i64 1) ∧ W.cell? ⟨gk, 3, none⟩ = some (.string ⟨#[120]⟩) ∧ W.cell? ⟨w5.heap.size, 0, none⟩ = some (.int .i64 3)) (first | exact HZ.out _ hdz | exact ⟨y0, y1, y2, y3, y4, y5, y6, y7, y8⟩ | go_keep) (first
      | (go_at_call 10; have hbx := HB7.out; clear hbx; refine (HK0.out _).mono ?_; rintro e w8 ⟨v8, rfl, ho8, hb8⟩; have hsl := ho8.slice; simp only [List.length_nil] at hsl; have HB8 := Lib.hid (HB7.out.trans (hb8.mono HB7.out.size)); have hv8 : ∃ q c, v8 = .slice q 0 c := (by rcases hsl with ⟨h, _⟩ | ⟨g, c, h, _⟩; exact ⟨_, _, h⟩; exact ⟨_, _, h⟩); obtain ⟨y0, y1, y2, y3, y4, y5, y6, y7, y8⟩ := HZ.out w8 HB8.out; clear ho8 hb8 hsl; obtain ⟨q8, c8, rfl⟩ := hv8)
      | (go_at_call 10; have hbx := HB6.out; clear hbx; refine (HK2.out _ _ _ HA6.out HM6.out).mono ?_; rintro e w7 ⟨v7, rfl, ho7, hb7⟩; have hsl := ho7.slice; simp only [reduceCtorEq, and_false, false_or] at hsl; obtain ⟨g7, c7, rfl, _, _, _⟩ := hsl; have HB7 := Lib.hid (HB6.out.trans (hb7.mono HB6.out.size)); obtain ⟨y0, y1, y2, y3, y4, y5, y6, y7, y8⟩ := HZ.out w7 HB7.out; clear ho7 hb7)
      | (go_at_call 14; refine (HSN.out _ HDZ3.out).mono ?_; rintro e w6 ⟨p6, n6, rfl, ha6, hm6, hl6, hb6⟩; have HA6 := Lib.hid ha6; have HM6 := Lib.hid hm6; have HB6 := Lib.hid (hdz.trans (hb6.mono (Nat.le_refl _))); obtain ⟨y0, y1, y2, y3, y4, y5, y6, y7, y8⟩ := HZ.out w6 HB6.out; clear ha6 hm6 hl6 hb6))
    all_goals
      go_wp2_with fail
      go_ret
      exact ⟨rfl, HBA.out.trans ((HZA.out.trans (HB8.out.mono HZA.out.size)).mono HBA.out.size)⟩
end Go.Proofs.Ytpgmlagkpigdjaa
