/-
  The law GraphOn, walked.
-/
import Derived.Test.YtggoajpemffbiaaOnf
namespace Go.Proofs.Ytggoajpemffbiaa
open Go.RowKit
set_option maxRecDepth 20000
set_option linter.unusedVariables false
set_option linter.unusedSimpArgs false

set_option maxHeartbeats 16000000 in
theorem on_out (g h i : Gr) (qm : Option Addr) (nm cm : Nat) (qk : Option Addr) (nk ck : Nat) (w : World)
    (hc : ¬ (fewB g = true ∧ fewB h = true ∧ fewB i = true ∧ nm ≤ 60 ∧ nk ≤ 60)) :
    Calls Try.prog 6 #[g.v, h.v, i.v, .slice qm nm cm, .slice qk nk ck] w (MapsPost w) := by
  have HFG := Lib.hid (fun W => few_any g W)
  have HFH := Lib.hid (fun W => few_any h W)
  have HFI := Lib.hid (fun W => few_any i W)
  obtain ⟨bx, bb⟩ := w3_in w g h i
  have HX := Lib.hid bx
  have HB := Lib.hid bb
  unfold w3 at *
  generalize fewB g = f1 at *
  generalize fewB h = f2 at *
  generalize fewB i = f3 at *
  simp only [Gr.v] at *
  clear bx bb
  go_enter Try.func6, Try.ntmps6
  go_upto_region 1 with fail
  generalize ((w.alloc (.cells #[.slice g.qe g.ne g.ce, .slice g.ql g.nl g.cl, .slice g.qv g.nv g.cv] 25)).alloc (.cells #[.slice h.qe h.ne h.ce, .slice h.ql h.nl h.cl, .slice h.qv h.nv h.cv] 25)).alloc (.cells #[.slice i.qe i.ne i.ce, .slice i.ql i.nl i.cl, .slice i.qv i.nv i.cv] 25) = W1 at *
  obtain ⟨D, hD⟩ : ∃ D, D = w.heap.size + 1 + 1 := ⟨_, rfl⟩
  rw [← hD] at HX ⊢
  obtain ⟨C, hC⟩ : ∃ C, C = w.heap.size + 1 := ⟨_, rfl⟩
  rw [← hC] at HX ⊢
  obtain ⟨B, hB⟩ : ∃ B, B = w.heap.size := ⟨_, rfl⟩
  rw [← hB] at HX ⊢
  clear hB hC hD
  obtain ⟨⟨c0, c1, c2⟩, ⟨d0, d1, d2⟩, ⟨e0, e1, e2⟩⟩ := HX.out.cells
  go_wp2_with fail
  refine (HFG.out W1).mono ?_
  rintro e w1 ⟨rfl, hb1⟩
  have HB1 := Lib.hid (HB.out.trans (hb1.mono HB.out.size))
  have HX1 := Lib.hid (HX.out.step hb1)
  clear hb1 c0 c1 c2 d0 d1 d2 e0 e1 e2
  have fin : ∀ wz, Below w.heap.size w wz → Calls Try.prog 8 #[] wz fun e w' => e = .returned (.bool true) ∧ Below w.heap.size w w' := fun wz hz => (alive_any wz).mono fun e w' q => ⟨q.1, hz.trans (q.2.mono hz.size)⟩
  have HFIN := Lib.hid fin
  clear fin
  cases f1 with
  | false =>
    clear hc
    go_wp2_with fail
    refine (HFIN.out w1 HB1.out).mono ?_
    rintro e w2 ⟨rfl, hb2⟩
    have HB2 := Lib.hid hb2
    clear hb2
    go_wp2_with fail
    go_ret
    exact ⟨rfl, HB2.out⟩
  | true =>
    obtain ⟨⟨c0, c1, c2⟩, ⟨d0, d1, d2⟩, ⟨e0, e1, e2⟩⟩ := HX1.out.cells
    go_wp2_with fail
    refine (HFH.out w1).mono ?_
    rintro e w2 ⟨rfl, hb2⟩
    have HB2 := Lib.hid (HB1.out.trans (hb2.mono HB1.out.size))
    have HX2 := Lib.hid (HX1.out.step hb2)
    clear hb2 c0 c1 c2 d0 d1 d2 e0 e1 e2
    cases f2 with
    | false =>
      clear hc
      go_wp2_with fail
      refine (HFIN.out w2 HB2.out).mono ?_
      rintro e w3 ⟨rfl, hb3⟩
      have HB3 := Lib.hid hb3
      clear hb3
      go_wp2_with fail
      go_ret
      exact ⟨rfl, HB3.out⟩
    | true =>
      obtain ⟨⟨c0, c1, c2⟩, ⟨d0, d1, d2⟩, ⟨e0, e1, e2⟩⟩ := HX2.out.cells
      go_wp2_with fail
      refine (HFI.out w2).mono ?_
      rintro e w3 ⟨rfl, hb3⟩
      have HB3 := Lib.hid (HB2.out.trans (hb3.mono HB2.out.size))
      have HX3 := Lib.hid (HX2.out.step hb3)
      clear hb3 c0 c1 c2 d0 d1 d2 e0 e1 e2
      cases f3 with
      | false =>
        clear hc
        go_wp2_with fail
        refine (HFIN.out w3 HB3.out).mono ?_
        rintro e w4 ⟨rfl, hb4⟩
        have HB4 := Lib.hid hb4
        clear hb4
        go_wp2_with fail
        go_ret
        exact ⟨rfl, HB4.out⟩
      | true =>
        simp only [true_and] at hc
        by_cases hm : nm ≤ 60
        · have hk : 60 < nk := by omega
          clear hc
          go_wp2_with fail
          refine (HFIN.out w3 HB3.out).mono ?_
          rintro e w4 ⟨rfl, hb4⟩
          have HB4 := Lib.hid hb4
          clear hb4
          go_wp2_with fail
          go_ret
          exact ⟨rfl, HB4.out⟩
        · have hm2 : 60 < nm := by omega
          clear hc hm
          go_wp2_with fail
          refine (HFIN.out w3 HB3.out).mono ?_
          rintro e w4 ⟨rfl, hb4⟩
          have HB4 := Lib.hid hb4
          clear hb4
          go_wp2_with fail
          go_ret
          exact ⟨rfl, HB4.out⟩
end Go.Proofs.Ytggoajpemffbiaa
