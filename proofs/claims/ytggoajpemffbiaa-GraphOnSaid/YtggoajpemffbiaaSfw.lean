/-
  The law GraphSelf, walked.
-/
import Derived.Test.YtggoajpemffbiaaFew
import Derived.Test.YtggoajpemffbiaaGmw
import Derived.Lib.QuietBelow
import Derived.BigQuiet
namespace Go.Proofs.Ytggoajpemffbiaa
open Go.RowKit
set_option maxRecDepth 20000
set_option linter.unusedVariables false
set_option linter.unusedSimpArgs false

theorem rem_n {n : Nat} (a : Int) (h0 : n ≠ 0) (hn : n ≤ 60) : ∃ A : Nat, A < n ∧ Int.tmod (wrap64 (Int.tmod a n + n)) n = (A : Int) := by
  have hp : (0 : Int) < (n : Int) := by omega
  have h1 := Int.tmod_lt_of_pos a hp
  have h2 : -(n : Int) < Int.tmod a n := by
    rcases Int.lt_or_le a 0 with h | h
    · have := Int.tmod_lt_of_pos (-a) hp
      rw [Int.neg_tmod] at this; omega
    · have := Int.tmod_nonneg (n : Int) h; omega
  have h3 := Int.tmod_nonneg (n : Int) (show 0 ≤ Int.tmod a n + n by omega)
  have h4 := Int.tmod_lt_of_pos (Int.tmod a n + n) hp
  rw [IntWalk.wrap64_in _ (by omega)]
  exact ⟨(Int.tmod (Int.tmod a n + n) n).toNat, by omega, by omega⟩
theorem box3 {w : World} {B : Nat} {a b c : Value} (h : w.heap[B]? = some (.cells #[a, b, c] 25 (0, 0))) : w.cell? ⟨B, 0, none⟩ = some a ∧ w.cell? ⟨B, 1, none⟩ = some b ∧ w.cell? ⟨B, 2, none⟩ = some c := ⟨(cellH h 0).trans rfl, (cellH h 1).trans rfl, (cellH h 2).trans rfl⟩
set_option maxHeartbeats 16000000 in
theorem self_out (g : Gr) (E : List Int) (L : List P2) (V : List Int) (qo : Option Addr) (no co : Nat) (O : List Oc) (a b : Int) (w : World) (h : GrIn w g E L V) (hO : OS w qo no co O)
    (hc : ¬ (fewB g = true ∧ no ≤ 60 ∧ rightB E L V O = true ∧ no ≠ 0)) :
    Calls Try.prog 5 #[g.v, .slice qo no co, .int .i64 a, .int .i64 b] w (MapsPost w) := by
  have HF := Lib.hid (fun W => few_any g W)
  have HR : Hid (fewB g = true → no ≤ 60 → ∀ W, Below w.heap.size w W → Calls Try.prog 9 #[g.v, .slice qo no co] W fun e w' => e = .returned (.bool (rightB E L V O)) ∧ Below W.heap.size W w') := Lib.hid fun hf hn W hW => by
    have := few_yes hf
    exact right_any g E L V qo no co O W (h.step hW) (hO.step hW) (by omega) (by omega) (by omega)
  clear h hO
  generalize fewB g = f at *
  generalize rightB E L V O = r at *
  obtain ⟨qe, ne, ce, ql, nl, cl, qv, nv, cv⟩ := g
  simp only [Gr.v] at *
  have b1 : Below w.heap.size w (w.alloc (.cells #[.slice qe ne ce, .slice ql nl cl, .slice qv nv cv] 25)) := (Below.refl _ _).alloc (Nat.le_refl _) _
  have e1 := heap_new w (.cells #[.slice qe ne ce, .slice ql nl cl, .slice qv nv cv] 25)
  have HB0 := Lib.hid b1
  go_enter Try.func5, Try.ntmps5
  go_upto_region 1 with fail
  generalize w.alloc (.cells #[.slice qe ne ce, .slice ql nl cl, .slice qv nv cv] 25) = W1 at *
  obtain ⟨B, hB⟩ : ∃ B, B = w.heap.size := ⟨_, rfl⟩
  rw [← hB] at e1 ⊢
  have HX := Lib.hid e1
  obtain ⟨c0, c1, c2⟩ := box3 e1
  clear b1 hB e1
  go_wp2_with fail
  refine (HF.out W1).mono ?_
  rintro e w1 ⟨rfl, hb1⟩
  have HB1 := Lib.hid (HB0.out.trans (hb1.mono HB0.out.size))
  have HX1 := Lib.hid (heap_step HX.out hb1)
  clear hb1 c0 c1 c2
  cases f with
  | false =>
    clear hc HR
    go_wp2_with fail
    refine (alive_any w1).mono ?_
    rintro e w2 ⟨rfl, hb2⟩
    have HB2 := Lib.hid (HB1.out.trans (hb2.mono HB1.out.size))
    clear hb2
    go_wp2_with fail
    go_ret
    exact ⟨rfl, HB2.out⟩
  | true =>
    by_cases hn : no ≤ 60
    · obtain ⟨c0, c1, c2⟩ := box3 HX1.out
      have HR1 := Lib.hid (HR.out rfl hn w1 HB1.out)
      clear HR
      go_wp2_with fail
      refine HR1.out.mono ?_
      rintro e w2 ⟨rfl, hb2⟩
      have HB2 := Lib.hid (HB1.out.trans (hb2.mono HB1.out.size))
      clear hb2 c0 c1 c2 HR1
      cases r with
      | false =>
        clear hc
        go_wp2_with fail
        refine (alive_any w2).mono ?_
        rintro e w3 ⟨rfl, hb3⟩
        have HB3 := Lib.hid (HB2.out.trans (hb3.mono HB2.out.size))
        clear hb3
        go_wp2_with fail
        go_ret
        exact ⟨rfl, HB3.out⟩
      | true =>
        obtain rfl : no = 0 := by
          simp only [true_and] at hc
          omega
        clear hc hn
        go_wp2_with fail
        refine (alive_any w2).mono ?_
        rintro e w3 ⟨rfl, hb3⟩
        have HB3 := Lib.hid (HB2.out.trans (hb3.mono HB2.out.size))
        clear hb3
        go_wp2_with fail
        go_ret
        exact ⟨rfl, HB3.out⟩
    · have hn2 : 60 < no := by omega
      clear hc HR hn
      go_wp2_with fail
      refine (alive_any w1).mono ?_
      rintro e w2 ⟨rfl, hb2⟩
      have HB2 := Lib.hid (HB1.out.trans (hb2.mono HB1.out.size))
      clear hb2
      go_wp2_with fail
      go_ret
      exact ⟨rfl, HB2.out⟩
end Go.Proofs.Ytggoajpemffbiaa
