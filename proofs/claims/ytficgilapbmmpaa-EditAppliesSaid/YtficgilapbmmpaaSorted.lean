/-
  edit.Sorted: a row of its own, in order.
-/
import Derived.Test.YtficgilapbmmpaaClone
namespace Go.Proofs.Ytficgilapbmmpaa
open Go.RowKit
set_option linter.unusedVariables false

theorem Arr.text {w : World} {g : Nat} {d : List Ed} (h : Arr w g d) (i : Nat) (hi : i < d.length) : Arr (w.setCell ⟨g, i * 3 + 2, none⟩ (.string d[i].t)) g d := by
  have hall := h
  obtain ⟨cur, hg, hsz, hat⟩ := h
  obtain ⟨c1, h1, s1⟩ := heap_set hg (i * 3 + 2) (.string d[i].t)
  refine ⟨c1, h1, by omega, fun j hj => ?_⟩
  obtain ⟨e0, e1, e2⟩ := hall.at j d[j] (by simp [hj])
  simp only [Nat.zero_add]
  refine ⟨cell_set e0 (by omega), cell_set e1 (by omega), ?_⟩
  by_cases hij : i = j
  · subst hij
    exact cell_put e2
  · exact cell_set e2 (by omega)
theorem below_grown {N : Nat} {w w1 w2 : World} {g : Nat} (h : Below N w w1) (hg : w1.grownBy w2 (some g)) (hN : N ≤ g) (hs : N ≤ w1.heap.size) : Below N w w2 :=
  h.grown hg hs (fun k hk => by simp at hk; omega)

set_option maxHeartbeats 1000000 in
theorem sorted_some (l : List Ed) (b off cap : Nat) (w : World) (hc : EditsAt w b off l) (hb : b < w.heap.size) (hcap : l.length ≤ cap) (hm : l.length ≤ 60) (hl : 0 < l.length) (ht : ∀ i, (h : i < l.length) → l[i].t.size ≤ 100000) :
    Calls Try.prog 17 #[.slice (some ⟨b, off, none⟩) l.length cap] w fun e w' => ∃ g c, e = .returned (.slice (some ⟨g, 0, none⟩) l.length c) ∧ l.length ≤ c ∧ w.heap.size ≤ g ∧ Arr w' g (ssort l) ∧ Below w.heap.size w w' := by
  have HC := Lib.hid hc
  have HT := Lib.hid ht
  clear hc ht
  go_enter Try.func17, Try.ntmps17
  go_wp2_with (go_at_call 30; refine (clone_some l b off cap _ HC.out hb hcap hm hl).mono ?_; rintro e w1 ⟨g, c, rfl, hgc, hwg, harr, hbl⟩)
  have HARR := Lib.hid harr
  have HBL := Lib.hid hbl
  have hz := hbl.size
  clear harr hbl
  go_loopw [9] (fun i wr => ∃ k : Nat, k ≤ l.length ∧ i = .int .i64 k ∧ Arr wr g l ∧ Below w.heap.size w wr) (fun i _ => l.length - (intOf i).toNat)
  case atStart => exact ⟨0, by omega, rfl, HARR.out, HBL.out⟩
  case round =>
    obtain ⟨k, hk, rfl, harr, hbe⟩ := hrel
    clear HARR HBL
    have HARR := Lib.hid harr
    have HBE := Lib.hid hbe
    have hzr := hbe.size
    by_cases hlt : k < l.length
    · obtain ⟨e0, e1, e2⟩ := harr.at k l[k] (by simp [hlt])
      have hts := HT.out k hlt
      have HTX := Lib.hid (fun (w : World) (h : Arr w g l) => h.text k hlt)
      generalize l[k].t = t at *
      have hgl := harr.lt
      clear harr hbe e0 e1
      go_wp2_with fail
      refine (clone_any t (by omega) _).mono ?_
      rintro e w3 ⟨rfl, hb3⟩
      have harr3 := HARR.out.step hb3
      have hbe3 := HBE.out.trans (hb3.mono hzr)
      have g2 := (hb3.cell (p := ⟨g, k * 3 + 2, none⟩) hgl).trans e2
      have z2 := harr3.frozen (k * 3 + 2)
      have HNA := Lib.hid (HTX.out w3 harr3)
      have HNB := Lib.hid (below_grown hbe3 (grown_set w3 g (k * 3 + 2) (.string t)) hwg (by have := hb3.size; omega))
      clear harr3 hbe3 hb3 e2
      go_wp2_with fail
      go_roundw
      case rel => exact ⟨k + 1, by omega, by go_num, HNA.out, HNB.out⟩
      case measure => simp [intOf]; omega
    · go_wp2_with fail
      refine (sortStable_any _ g l.length c l HARR.out rfl hgc hm).mono ?_
      rintro e w5 ⟨rfl, arr5, gr5⟩
      have H5 := Lib.hid arr5
      have B5 := Lib.hid (below_grown HBE.out gr5 hwg hzr)
      clear arr5 gr5 harr hbe
      go_wp2_with fail
      go_ret
      exact ⟨g, c, rfl, hgc, hwg, H5.out, B5.out⟩
end Go.Proofs.Ytficgilapbmmpaa
