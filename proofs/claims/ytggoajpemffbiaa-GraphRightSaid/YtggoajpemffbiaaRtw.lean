/-
  The law GraphRight, walked.
-/
import Derived.Test.YtggoajpemffbiaaRrg
import Derived.Test.YtggoajpemffbiaaGmw
namespace Go.Proofs.Ytggoajpemffbiaa
open Go.RowKit
set_option maxRecDepth 20000
set_option linter.unusedVariables false
set_option linter.unusedSimpArgs false

def RowPost (w W : World) (l : List Int) (e : Ending) (w' : World) : Prop :=
  ∃ q n c, e = .returned (.slice q n c) ∧ IS w' q n c l ∧ n ≤ 100 ∧ Below w.heap.size w w' ∧ ∀ q n c l, IS W q n c l → IS w' q n c l
set_option maxHeartbeats 16000000 in
theorem right_out (g : Gr) (qo : Option Addr) (no co : Nat) (occ : Int) (w : World) (hc : ¬ (fewB g = true ∧ no ≤ 60)) :
    Calls Try.prog 3 #[g.v, .slice qo no co, .int .i64 occ] w (MapsPost w) := by
  have HF := Lib.hid (fun W => few_any g W)
  generalize fewB g = f at *
  simp only [Gr.v] at *
  have HB0 : Hid (Below w.heap.size w (w.alloc (.cells #[.slice g.qe g.ne g.ce, .slice g.ql g.nl g.cl, .slice g.qv g.nv g.cv] 25))) := Lib.hid ((Below.refl _ _).alloc (Nat.le_refl _) _)
  go_enter Try.func3, Try.ntmps3
  go_wp2_with fail
  refine (HF.out _).mono ?_
  rintro e w1 ⟨rfl, hb1⟩
  have HB1 := Lib.hid (HB0.out.trans (hb1.mono HB0.out.size))
  clear hb1 HB0
  cases f with
  | false =>
    clear hc
    go_wp2_with fail
    refine (alive_any w1).mono ?_
    rintro e w2 ⟨rfl, hb2⟩
    have HB2 := Lib.hid (HB1.out.trans (hb2.mono HB1.out.size))
    clear hb2
    go_wp2_with fail
    go_ret
    exact ⟨rfl, HB2.out⟩
  | true =>
    have hn : 60 < no := by simp only [true_and] at hc; omega
    clear hc
    go_wp2_with fail
    refine (alive_any w1).mono ?_
    rintro e w2 ⟨rfl, hb2⟩
    have HB2 := Lib.hid (HB1.out.trans (hb2.mono HB1.out.size))
    clear hb2
    go_wp2_with fail
    go_ret
    exact ⟨rfl, HB2.out⟩
set_option maxHeartbeats 16000000 in
theorem right_in (g : Gr) (E : List Int) (L : List P2) (V : List Int) (qo : Option Addr) (no co : Nat) (O : List Oc) (occ : Int) (w : World) (h : GrIn w g E L V) (hO : OS w qo no co O) (ho : W64 occ)
    (hf : fewB g = true) (hn : no ≤ 60) :
    Calls Try.prog 3 #[g.v, .slice qo no co, .int .i64 occ] w (MapsPost w) := by
  obtain ⟨f1, f2, f3⟩ := few_yes hf
  have HF : Hid (∀ W, Calls Try.prog 7 #[g.v] W fun e w' => e = .returned (.bool true) ∧ Below W.heap.size W w') := Lib.hid (fun W => by have := few_any g W; rwa [hf] at this)
  have HR : Hid (∀ W0 W, Below w.heap.size w W0 → Below W0.heap.size W0 W → Calls Try.prog 9 #[g.v, .slice qo no co] W fun e w' => e = .returned (.bool (rightB E L V O)) ∧ Below W0.heap.size W0 w') := Lib.hid fun W0 W h0 hW => (right_any g E L V qo no co O W (h.step (h0.trans (hW.mono h0.size))) (hO.step (h0.trans (hW.mono h0.size))) (by omega) (by omega) (by omega)).mono fun e w' q => ⟨q.1, hW.trans (q.2.mono hW.size)⟩
  have HRR : Hid (∀ W0 W, Below w.heap.size w W0 → Below W0.heap.size W0 W → Calls Try.prog 10 #[g.v, .slice qo no co] W fun e w' => e = .returned (.bool (rightB E L V O)) ∧ Below W0.heap.size W0 w') := Lib.hid fun W0 W h0 hW => (rright_any g E L V qo no co O W (h.step (h0.trans (hW.mono h0.size))) (hO.step (h0.trans (hW.mono h0.size))) (by omega) (by omega) (by omega)).mono fun e w' q => ⟨q.1, hW.trans (q.2.mono hW.size)⟩
  have hfl : (famO E L occ).length ≤ 100 := by
    have hle := h.e.1
    unfold famO
    split
    · split
      · have := famN_len E L ‹Int›; omega
      · simp
    · simp
  have HFA : Hid (∀ W0 W, Below w.heap.size w W0 → Below W0.heap.size W0 W → Calls Try.prog 12 #[g.v, .int .i64 occ] W (RowPost W0 W (famO E L occ))) := Lib.hid fun W0 W h0 hW => (family_any g E L V occ W (h.step (h0.trans (hW.mono h0.size))) (by omega) (by omega) ho).mono fun e w' q => by
    obtain ⟨v, rfl, hv, hb⟩ := q
    obtain ⟨q, n, c, rfl, his⟩ := hv.is
    exact ⟨q, n, c, rfl, his, by have := his.1; omega, hW.trans (hb.mono hW.size), fun q n c l z => z.step hb⟩
  have HFB : Hid (∀ W0 W, Below w.heap.size w W0 → Below W0.heap.size W0 W → Calls Try.prog 13 #[g.v, .int .i64 occ] W (RowPost W0 W (famO E L occ))) := Lib.hid fun W0 W h0 hW => (rfamily_any g E L V occ W (h.step (h0.trans (hW.mono h0.size))) (by omega) (by omega)).mono fun e w' q => by
    obtain ⟨v, rfl, hv, hb⟩ := q
    obtain ⟨q, n, c, rfl, his⟩ := hv.is
    exact ⟨q, n, c, rfl, his, by have := his.1; omega, hW.trans (hb.mono hW.size), fun q n c l z => z.step hb⟩
  have HIN : Hid (∀ (W0 W : World) (p q : Option Addr) (n m c d : Nat), IS W p n c (famO E L occ) → IS W q m d (famO E L occ) → n ≤ 100 → Below w.heap.size w W0 → Below W0.heap.size W0 W → Calls Try.prog 11 #[.slice p n c, .slice q m d] W fun e w' => e = .returned (.bool true) ∧ Below W0.heap.size W0 w') := Lib.hid fun W0 W p q n m c d hp hq hn h0 hW => (ints_same p q n m c d (famO E L occ) W hp hq (by omega)).mono fun e w' q => ⟨q.1, hW.trans (q.2.mono hW.size)⟩
  have HAL : Hid (∀ W0 W, Below w.heap.size w W0 → Below W0.heap.size W0 W → Calls Try.prog 8 #[] W fun e w' => e = .returned (.bool true) ∧ Below W0.heap.size W0 w') := Lib.hid fun W0 W h0 hW => (alive_any W).mono fun e w' q => ⟨q.1, hW.trans (q.2.mono hW.size)⟩
  clear h hO ho hf hfl f1 f2 f3
  generalize rightB E L V O = b at *
  generalize famO E L occ = l at *
  simp only [Gr.v] at *
  have b1 : Below w.heap.size w (w.alloc (.cells #[.slice g.qe g.ne g.ce, .slice g.ql g.nl g.cl, .slice g.qv g.nv g.cv] 25)) := (Below.refl _ _).alloc (Nat.le_refl _) _
  have e1 := heap_new w (.cells #[.slice g.qe g.ne g.ce, .slice g.ql g.nl g.cl, .slice g.qv g.nv g.cv] 25)
  have HB0 := Lib.hid b1
  go_enter Try.func3, Try.ntmps3
  go_upto_region 1 with fail
  obtain ⟨W1, hW1⟩ : ∃ W1, W1 = w.alloc (.cells #[.slice g.qe g.ne g.ce, .slice g.ql g.nl g.cl, .slice g.qv g.nv g.cv] 25) := ⟨_, rfl⟩
  rw [← hW1] at e1 HB0 b1 ⊢
  obtain ⟨B, hB⟩ : ∃ B, B = w.heap.size := ⟨_, rfl⟩
  rw [← hB] at e1 ⊢
  have HX := Lib.hid e1
  obtain ⟨c0, c1, c2⟩ := boxg e1
  clear hB hW1 b1 e1
  go_wp2_with fail
  refine (HF.out _).mono ?_
  rintro e w1 ⟨rfl, hb1⟩
  have HB1 := Lib.hid (HB0.out.trans (hb1.mono HB0.out.size))
  have HX1 := Lib.hid (heap_step HX.out hb1)
  clear hb1 HB0 HX HF c0 c1 c2
  obtain ⟨c0, c1, c2⟩ := boxg HX1.out
  have HR1 : Hid (∀ W, Below w1.heap.size w1 W → Calls Try.prog 9 #[.agg #[.slice g.qe g.ne g.ce, .slice g.ql g.nl g.cl, .slice g.qv g.nv g.cv], .slice qo no co] W fun e w' => e = .returned (.bool b) ∧ Below w1.heap.size w1 w') := Lib.hid fun W hW => HR.out w1 W HB1.out hW
  have HRR1 : Hid (∀ W, Below w1.heap.size w1 W → Calls Try.prog 10 #[.agg #[.slice g.qe g.ne g.ce, .slice g.ql g.nl g.cl, .slice g.qv g.nv g.cv], .slice qo no co] W fun e w' => e = .returned (.bool b) ∧ Below w1.heap.size w1 w') := Lib.hid fun W hW => HRR.out w1 W HB1.out hW
  have HFA1 : Hid (∀ W, Below w1.heap.size w1 W → Calls Try.prog 12 #[.agg #[.slice g.qe g.ne g.ce, .slice g.ql g.nl g.cl, .slice g.qv g.nv g.cv], .int .i64 occ] W (RowPost w1 W l)) := Lib.hid fun W hW => HFA.out w1 W HB1.out hW
  have HFB1 : Hid (∀ W, Below w1.heap.size w1 W → Calls Try.prog 13 #[.agg #[.slice g.qe g.ne g.ce, .slice g.ql g.nl g.cl, .slice g.qv g.nv g.cv], .int .i64 occ] W (RowPost w1 W l)) := Lib.hid fun W hW => HFB.out w1 W HB1.out hW
  have HIN1 : Hid (∀ (W : World) (p q : Option Addr) (n m c d : Nat), IS W p n c l → IS W q m d l → n ≤ 100 → Below w1.heap.size w1 W → Calls Try.prog 11 #[.slice p n c, .slice q m d] W fun e w' => e = .returned (.bool true) ∧ Below w1.heap.size w1 w') := Lib.hid fun W p q n m c d hp hq hn hW => HIN.out w1 W p q n m c d hp hq hn HB1.out hW
  have HAL1 : Hid (∀ W, Below w1.heap.size w1 W → Calls Try.prog 8 #[] W fun e w' => e = .returned (.bool true) ∧ Below w1.heap.size w1 w') := Lib.hid fun W hW => HAL.out w1 W HB1.out hW
  clear HR HRR HFA HFB HIN HAL
  have HKP : Hid (∀ W, Below w1.heap.size w1 W → W.cell? ⟨B, 0, none⟩ = some (.slice g.qe g.ne g.ce) ∧ W.cell? ⟨B, 1, none⟩ = some (.slice g.ql g.nl g.cl) ∧ W.cell? ⟨B, 2, none⟩ = some (.slice g.qv g.nv g.cv)) := Lib.hid fun W hW => boxg (heap_step HX1.out hW)
  have hbb : (b == b) = true := by simp
  go_upto_region 3 with fail
  go_region_held3 (fun w' => w'.cell? ⟨B, 0, none⟩ = some (.slice g.qe g.ne g.ce) ∧ w'.cell? ⟨B, 1, none⟩ = some (.slice g.ql g.nl g.cl) ∧ w'.cell? ⟨B, 2, none⟩ = some (.slice g.qv g.nv g.cv)) (first | exact ⟨c0, c1, c2⟩ | exact HKP.out _ (Below.refl _ _).drew | exact HKP.out _ HBa.out | exact HKP.out _ HBb.out | exact HKP.out _ HBc.out | exact HKP.out _ HBd.out | exact HKP.out _ HBe.out | exact HKP.out _ HBf.out | exact HKP.out _ HBa.out.drew | exact HKP.out _ HBb.out.drew | exact HKP.out _ HBc.out.drew | exact HKP.out _ HBd.out.drew | exact HKP.out _ HBe.out.drew | exact HKP.out _ HBf.out.drew | go_keep) (first
    | (go_at_call 9; (with_reducible refine Calls.mono (HR1.out _ (by first | exact Below.refl _ _ | exact (Below.refl _ _).drew | exact HBb.out | exact HBb.out.drew)) ?_); rintro e wa ⟨rfl, hba⟩; have HBa := Lib.hid hba; clear hba)
    | (go_at_call 10; (with_reducible refine Calls.mono (HRR1.out _ (by first | exact Below.refl _ _ | exact (Below.refl _ _).drew | exact HBa.out | exact HBa.out.drew)) ?_); rintro e wb ⟨rfl, hbb1⟩; have HBb := Lib.hid hbb1; clear hbb1)
    | (go_at_call 12; (with_reducible refine Calls.mono (HFA1.out _ (by first | exact HBb.out | exact HBb.out.drew | exact HBa.out | exact HBa.out.drew | exact HBd.out | exact HBd.out.drew)) ?_); rintro e wc ⟨qx, nx, cx, rfl, hisx, hnx, hbc, hsx⟩; have HIX := Lib.hid hisx; have HBc := Lib.hid hbc; have HSX := Lib.hid hsx; clear hisx hbc hsx)
    | (go_at_call 13; (with_reducible refine Calls.mono (HFB1.out _ (by first | exact HBc.out | exact HBc.out.drew | exact HBb.out | exact HBb.out.drew)) ?_); rintro e wd ⟨qy, ny, cy, rfl, hisy, hny, hbd, hsy⟩; have HIX2 := Lib.hid (hsy _ _ _ _ HIX.out); have HIY := Lib.hid hisy; have HBd := Lib.hid hbd; clear hisy hbd hsy)
    | (go_at_call 11; (with_reducible refine Calls.mono (HIN1.out _ _ _ _ _ _ _ (by first | exact HIX2.out) (by first | exact HIY.out) (by omega) (by first | exact HBd.out | exact HBd.out.drew)) ?_); rintro e we ⟨rfl, hbe⟩; have HBe := Lib.hid hbe; clear hbe)
    | (go_at_call 8; (with_reducible refine Calls.mono (HAL1.out _ (by first | exact HBe.out | exact HBe.out.drew)) ?_); rintro e wf ⟨rfl, hbf⟩; have HBf := Lib.hid hbf; clear hbf))
  all_goals (
    have HBz := Lib.hid (HB1.out.trans (HBf.out.mono HB1.out.size))
    go_wp2_with fail
    go_ret
    exact ⟨rfl, HBz.out⟩)
theorem right_walk (g : Gr) (E : List Int) (L : List P2) (V : List Int) (qo : Option Addr) (no co : Nat) (O : List Oc) (occ : Int) (w : World) (h : GrIn w g E L V) (hO : OS w qo no co O) (_hno : no ≤ maxLen) (ho : (Lit.int .i64 occ).wf = true) :
    Calls Try.prog 3 #[g.v, .slice qo no co, .int .i64 occ] w fun e w' => e = .returned (.bool true) ∧ Below w.heap.size w w' := by
  by_cases hc : fewB g = true ∧ no ≤ 60
  · exact right_in g E L V qo no co O occ w h hO (bounds_i64 ho) hc.1 hc.2
  · exact right_out g qo no co occ w hc
end Go.Proofs.Ytggoajpemffbiaa
