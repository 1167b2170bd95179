/-
  LexAgain, walked.
-/
import Derived.Test.YtnkgmddaodbpcaaDoorAgain
namespace Go.Proofs.YtnkgmddaodbpcaaDoor
open Go.RowKit
set_option linter.unusedVariables false
set_option linter.unusedSimpArgs false

set_option maxRecDepth 100000 in
set_option maxHeartbeats 4000000 in
theorem lexAgain_walk (s : ByteArray) (w : World) (hs0 : s.size ≤ 9223372036854775807) (hk : Kw w) :
    Calls Tryd.prog 4 #[.string s] w fun e w' => e = .returned (.bool true) ∧ Below w.heap.size w w' := by
  have HAl := fun W (h : Below w.heap.size w W) => alive_any W (Kw.step (w1 := W) hk h)
  by_cases hbig : 500 < s.size
  · clear hk
    go_enter Tryd.func4, Tryd.ntmps4
    go_wp2_with fail
    refine (HAl w (Below.refl _ _)).mono ?_
    rintro e w1 ⟨rfl, hb⟩
    go_wp2_with fail
    go_ret
    exact ⟨rfl, hb⟩
  · have hs : s.size ≤ 500 := by omega
    have HS := scan_any s (by omega) w hk
    have HC := Lib.hid (scan_chain s)
    have HG := Lib.hid (again_at s)
    have HSc := fun p hp W (h : Below w.heap.size w W) => scan_any p hp W (Kw.step (w1 := W) hk h)
    generalize scanT s = L at *
    have hlen := HC.out.length
    obtain ⟨n, hn⟩ : ∃ n, L.length = n + 1 := ⟨L.length - 1, by omega⟩
    clear hk hbig hs0
    go_enter Tryd.func4, Tryd.ntmps4
    go_wp2_with fail
    refine HS.mono ?_
    rintro e w1 ⟨v, rfl, h1, b1⟩
    obtain ⟨g, c, rfl, hc, hcm, hg, hat⟩ := h1.open hlen.1
    have HA := Lib.hid hat
    have B1 := Lib.hid b1
    have HN := Lib.hid hn
    have hlim : n ≤ 501 := by omega
    clear h1 b1 hat
    rw [hn] at hc ⊢
    clear hn hlen
    have e1 : ((n + 1 : Nat) : Int) - 1 = (n : Int) := by omega
    go_wp2_with fail
    go_loopw [20] (fun i wr => ∃ k : Nat, k ≤ n ∧ i = .int .i64 k ∧ Below w1.heap.size w1 wr) (fun i _ => n - (intOf i).toNat)
    case atStart => exact ⟨0, by omega, rfl, Below.refl _ _⟩
    case round =>
      obtain ⟨k, hk, rfl, hbe⟩ := hrel
      have hsz := hbe.size
      by_cases hlt : k < n
      · have hkl : k < L.length := by have := HN.out; omega
        have hcc := (HA.out.step hg hbe) k hkl
        have c0 := hcc.1
        have c1 := hcc.2.1
        have c2 := hcc.2.2
        have hkk : (L[k]'hkl).k ≠ 0 := by
          have := (HC.out.at k hkl).2.2.2
          have := HN.out
          omega
        have hag := HG.out _ (List.getElem_mem hkl) hkk
        clear hcc
        generalize L[k]'hkl = t at *
        obtain ⟨tk, ta, te⟩ := t
        simp only at hag hkk c0 c1 c2
        obtain ⟨g1, g2, g3⟩ := hag
        have hsl : ∀ w, Sem.run Tryd.prog (Instr.slice 9 (.string s) (some (.int .i64 ta)) (some (.int .i64 te)) none) w = .ok (.string (s.extract ta te)) w := fun w => by
          have := run_slice_string (P := Tryd.prog) (w := w) 9 s .i64 .i64 (ta : Int) (te : Int) Tryd.underlying9 (by omega) (by omega) (by omega)
          exact this
        have hpz : (s.extract ta te).size ≤ 1000000 := by simp; omega
        have hb0 := hbe.alloc hsz (.cells #[.int .i64 tk, .int .i64 (ta : Int), .int .i64 (te : Int)] 26)
        have HX := HSc (s.extract ta te) hpz _ (B1.out.trans (hb0.mono B1.out.size))
        rw [g3] at HX
        have HB0 := Lib.hid hb0
        have hbox := heap_alloc_new wr (.cells #[.int .i64 tk, .int .i64 (ta : Int), .int .i64 (te : Int)] 26)
        have hwz : wr.heap.size < (wr.alloc (.cells #[.int .i64 tk, .int .i64 (ta : Int), .int .i64 (te : Int)] 26)).heap.size := by simp
        have HBOX := Lib.hid hbox
        clear hbox hb0 g3 hpz hbe
        go_wp2_with fail
        refine HX.mono ?_
        rintro e w2 ⟨v, rfl, h2, b2⟩
        obtain ⟨g', c', rfl, hc', _, hg', hat'⟩ := h2.open (by simp)
        have HO : Own3 w2 wr.heap.size _ _ _ _ := ⟨(b2.block _ hwz).trans HBOX.out⟩
        have x0 := HO.c0
        have x1 := HO.c1
        have x2 := HO.c2
        have y0 := (hat' 0 (by simp)).1
        have y1 := (hat' 0 (by simp)).2.1
        have y2 := (hat' 0 (by simp)).2.2
        simp only [List.getElem_cons_zero, Nat.zero_mul, Nat.zero_add] at y0 y1 y2
        have e4 : (te : Int) - (ta : Int) = ((te - ta : Nat) : Int) := by omega
        have HB2 := Lib.hid (HB0.out.trans (b2.mono HB0.out.size))
        clear h2 b2 HO hat' c0 c1 c2
        simp only [List.length_cons, List.length_nil]
        go_wp2_with fail
        go_quiet (fail)
        go_wp2_with fail
        go_roundw
        case rel => exact ⟨k + 1, by omega, by go_num, below_drewN HB2.out _⟩
        case measure => simp [intOf]; omega
      · have hkn : k = n := by omega
        subst hkn
        have HB := Lib.hid (B1.out.trans (hbe.mono B1.out.size))
        have HX := HAl _ HB.out
        clear hbe
        go_wp2_with fail
        refine HX.mono ?_
        rintro e w2 ⟨rfl, hb⟩
        go_wp2_with fail
        go_ret
        exact ⟨rfl, HB.out.trans (hb.mono HB.out.size)⟩
end Go.Proofs.YtnkgmddaodbpcaaDoor
