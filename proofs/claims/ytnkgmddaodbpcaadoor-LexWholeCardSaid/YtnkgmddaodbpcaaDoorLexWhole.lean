/-
  LexWhole, walked.
-/
import Derived.Test.YtnkgmddaodbpcaaDoorChain
namespace Go.Proofs.YtnkgmddaodbpcaaDoor
open Go.RowKit
set_option linter.unusedVariables false
set_option linter.unusedSimpArgs false

set_option maxRecDepth 100000 in
set_option maxHeartbeats 4000000 in
theorem lexWhole_walk (s : ByteArray) (w : World) (hs0 : s.size ≤ 9223372036854775807) (hk : Kw w) :
    Calls Tryd.prog 3 #[.string s] w fun e w' => e = .returned (.bool true) ∧ Below w.heap.size w w' := by
  have HAl := fun W (h : Below w.heap.size w W) => alive_any W (Kw.step (w1 := W) hk h)
  by_cases hbig : 10000 < s.size
  · clear hk
    go_enter Tryd.func3, Tryd.ntmps3
    go_wp2_with fail
    refine (HAl w (Below.refl _ _)).mono ?_
    rintro e w1 ⟨rfl, hb⟩
    go_wp2_with fail
    go_ret
    exact ⟨rfl, hb⟩
  · have hs : s.size ≤ 10000 := by omega
    have HS := scan_any s (by omega) w hk
    have HC := Lib.hid (scan_chain s)
    generalize scanT s = L at *
    have hlen := HC.out.length
    clear hk hbig hs0
    go_enter Tryd.func3, Tryd.ntmps3
    go_wp2_with fail
    refine HS.mono ?_
    rintro e w1 ⟨v, rfl, h1, b1⟩
    obtain ⟨g, c, rfl, hc, hcm, hg, hat⟩ := h1.open hlen.1
    have HA := Lib.hid hat
    have B1 := Lib.hid b1
    clear h1 b1 hat
    go_wp2_with fail
    have hn1 : L.length ≤ 10001 := by omega
    go_loopw [4, 16] (fun v i wr => ∃ k : Nat, k ≤ L.length ∧ i = .int .i64 k ∧ v = .int .i64 (posT s.size L k) ∧ Below w1.heap.size w1 wr) (fun _ i _ => L.length - (intOf i).toNat)
    case atStart => exact ⟨0, by omega, rfl, by rw [HC.out.pos0]; rfl, Below.refl _ _⟩
    case round =>
      obtain ⟨k, hk, rfl, rfl, hbe⟩ := hrel
      have hsz := hbe.size
      by_cases hlt : k < L.length
      · have hcc := (HA.out.step hg hbe) k hlt
        have c0 := hcc.1
        have c1 := hcc.2.1
        have c2 := hcc.2.2
        obtain ⟨ha, he, hen, hl⟩ := HC.out.at k hlt
        clear hcc
        have HP : Hid (posT s.size L (k + 1) = posT s.size L (k + 1)) := Lib.hid rfl
        generalize hP1 : posT s.size L (k + 1) = P1 at *
        have HP1 := Lib.hid hP1
        clear hP1 HP
        generalize posT s.size L k = P at *
        generalize L[k] = t at *
        obtain ⟨tk, ta, te⟩ := t
        simp only at ha he hen hl c0 c1 c2
        subst ha he
        have HB := Lib.hid (hbe.alloc hsz (.cells #[.int .i64 tk, .int .i64 (ta : Int), .int .i64 (te : Int)] 26))
        rcases hl with ⟨h1, h2, h3⟩ | ⟨h1, h2, h3⟩
        · subst h2 h3
          have e1 : ((k : Int) == (L.length : Int) - 1) = true := by simp; omega
          clear hbe h1
          go_wp2_with fail
          go_roundw
          case rel => exact ⟨k + 1, by omega, by go_num, by rw [HP1.out], HB.out⟩
          case measure => simp [intOf]; omega
        · have e1 : ((k : Int) == (L.length : Int) - 1) = false := by simp; omega
          have e2 : (tk == 0) = false := by simpa using h2
          have e3 : ((te : Int) == (ta : Int)) = false := by simp; omega
          clear hbe
          go_wp2_with fail
          go_roundw
          case rel => exact ⟨k + 1, by omega, by go_num, by rw [HP1.out], HB.out⟩
          case measure => simp [intOf]; omega
      · have hkl : k = L.length := by omega
        subst hkl
        have HB := Lib.hid (B1.out.trans (hbe.mono B1.out.size))
        rw [posT_end] at *
        clear hbe
        have HX := HAl _ HB.out
        have hl0 := hlen.1
        go_wp2_with fail
        refine HX.mono ?_
        rintro e w2 ⟨rfl, hb⟩
        go_wp2_with fail
        go_ret
        exact ⟨rfl, HB.out.trans (hb.mono HB.out.size)⟩
end Go.Proofs.YtnkgmddaodbpcaaDoor
