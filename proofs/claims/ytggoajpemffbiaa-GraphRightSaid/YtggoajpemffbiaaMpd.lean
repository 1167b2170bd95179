/-
  Whether a number is mapped; whether two rows of pairs are the same (slices.Equal): walked.
-/
import Derived.Test.YtggoajpemffbiaaRom
namespace Go.Proofs.Ytggoajpemffbiaa
open Go.RowKit
set_option maxRecDepth 20000
set_option linter.unusedVariables false
set_option linter.unusedSimpArgs false

theorem mAt_at {m : List Int} {i : Nat} {y : Int} (h : m[i]? = some y) : mAt m (i : Int) = y := by unfold mAt; simp [h]
theorem mpd_at {m : List Int} {i : Nat} {y : Int} (h : m[i]? = some y) : mpd m (i : Int) = (y != -1) := by
  have hl := (List.getElem?_eq_some_iff.1 h).1
  unfold mpd
  rw [mAt_at h]
  have : (i : Int) < (m.length : Int) := by omega
  simp [this]
theorem mpd_out {m : List Int} {x : Int} (h : ¬ (0 ≤ x ∧ x < m.length)) : mpd m x = false := by
  unfold mpd
  by_cases h0 : 0 ≤ x
  · have : ¬ x < (m.length : Int) := fun e => h ⟨h0, e⟩
    simp [this]
  · simp [h0]
theorem mpd_in {m : List Int} {x : Int} (h : mpd m x = true) : ∃ (i : Nat) (y : Int), x = (i : Int) ∧ m[i]? = some y ∧ y ≠ -1 := by
  by_cases hin : 0 ≤ x ∧ x < m.length
  · obtain ⟨i, rfl⟩ : ∃ i : Nat, x = (i : Int) := ⟨x.toNat, by omega⟩
    obtain ⟨y, hy⟩ : ∃ y, m[i]? = some y := ⟨_, List.getElem?_eq_getElem (by omega)⟩
    rw [mpd_at hy] at h
    exact ⟨i, y, rfl, hy, by simpa using h⟩
  · rw [mpd_out hin] at h; cases h
set_option maxHeartbeats 4000000 in
theorem mapped_any (x : Int) (bx : Nat) (q : Option Addr) (n c : Nat) (m : List Int) (w : World) (hb : w.cell? ⟨bx, 0, none⟩ = some (.slice q n c)) (hO : IS w q n c m) :
    Calls Try.prog 32 #[.int .i64 x, .pointer (some ⟨bx, 0, none⟩)] w fun e w' => e = .returned (.bool (mpd m x)) ∧ w' = w := by
  have hn := hO.1
  by_cases h0 : 0 ≤ x
  · by_cases h1 : x < (n : Int)
    · obtain ⟨i, rfl⟩ : ∃ i : Nat, x = (i : Int) := ⟨x.toNat, by omega⟩
      have hin : i < n := by omega
      obtain ⟨hxx, hz | ⟨g, o, rfl, hc, hg, hat⟩⟩ := hO
      · omega
      obtain ⟨y, hy⟩ : ∃ y, m[i]? = some y := ⟨_, List.getElem?_eq_getElem (by omega)⟩
      have c4 := hat i y hy
      have HD := Lib.hid (mpd_at hy)
      clear hat hxx hn hy
      go_enter Try.func32, Try.ntmps32
      go_wp2_with fail
      go_ret
      exact ⟨by rw [HD.out]; rfl, rfl⟩
    · have HD := Lib.hid (mpd_out (m := m) (x := x) (by omega))
      clear hn hO
      go_enter Try.func32, Try.ntmps32
      go_wp2_with fail
      go_ret
      exact ⟨by rw [HD.out]; rfl, rfl⟩
  · have HD := Lib.hid (mpd_out (m := m) (x := x) (by omega))
    clear hn hO
    go_enter Try.func32, Try.ntmps32
    go_wp2_with fail
    go_ret
    exact ⟨by rw [HD.out]; rfl, rfl⟩
set_option maxHeartbeats 8000000 in
theorem pairs_any (p q : Option Addr) (n m c d : Nat) (l k : List P2) (w : World) (hp : PS w p n c l) (hq : PS w q m d k) (hn : n ≤ 1000) :
    Calls Try.prog 27 #[.slice p n c, .slice q m d] w fun e w' => e = .returned (.bool (decide (l = k))) ∧ Below w.heap.size w w' := by
  have HP := Lib.hid hp
  have HQ := Lib.hid hq
  have hl := hp.1
  have hk := hq.1
  by_cases hnm : n = m
  · have hkl : Hid (l.length = n ∧ k.length = n) := Lib.hid (by omega)
    have HS : Hid (∀ i, i < n → l[i]? ≠ k[i]? → decide (l = k) = false) := Lib.hid fun i _ hne => by
      simp only [decide_eq_false_iff_not]; rintro rfl; exact hne rfl
    have HE : Hid ((∀ i, i < n → l[i]? = k[i]?) → decide (l = k) = true) := Lib.hid fun h => by
      simp only [decide_eq_true_eq]
      apply List.ext_getElem?
      intro i
      by_cases hi : i < n
      · exact h i hi
      · rw [List.getElem?_eq_none (by omega), List.getElem?_eq_none (by omega)]
    subst hnm
    have hnn : ((n : Int) != (n : Int)) = false := by simp
    clear hl hk hp hq
    go_enter Try.func27, Try.ntmps27
    go_wp2_with fail
    go_loopw [13] (fun i wr => ∃ j : Nat, j ≤ n ∧ i = .int .i64 j ∧ Hid (∀ x, x < j → l[x]? = k[x]?) ∧ Hid (Below w.heap.size w wr)) (fun i _ => n - (intOf i).toNat)
    case atStart => exact ⟨0, by omega, rfl, Lib.hid (fun x hx => by omega), Lib.hid (Below.refl _ _)⟩
    case round =>
      obtain ⟨j, hj, rfl, HX, HB⟩ := hrel
      by_cases hlt : j < n
      · obtain ⟨hx1, h0 | ⟨g, o, rfl, hc, hg, hat⟩⟩ := HP.out
        · omega
        obtain ⟨hx2, h0 | ⟨g2, o2, rfl, hc2, hg2, hat2⟩⟩ := HQ.out
        · omega
        clear hx1 hx2
        obtain ⟨a, ha⟩ : ∃ a, l[j]? = some a := ⟨_, List.getElem?_eq_getElem (by have := hkl.out.1; omega)⟩
        obtain ⟨b, hb⟩ : ∃ b, k[j]? = some b := ⟨_, List.getElem?_eq_getElem (by have := hkl.out.2; omega)⟩
        have c0 : wr.cell? ⟨g, o + j * 2, none⟩ = some (.int .i64 a.1) := (HB.out.cell (p := ⟨g, _, none⟩) hg).trans (hat j a ha).1
        have c0' : wr.cell? ⟨g, o + j * 2 + 1, none⟩ = some (.int .i64 a.2) := (HB.out.cell (p := ⟨g, _, none⟩) hg).trans (hat j a ha).2
        have c1 : wr.cell? ⟨g2, o2 + j * 2, none⟩ = some (.int .i64 b.1) := (HB.out.cell (p := ⟨g2, _, none⟩) hg2).trans (hat2 j b hb).1
        have c1' : wr.cell? ⟨g2, o2 + j * 2 + 1, none⟩ = some (.int .i64 b.2) := (HB.out.cell (p := ⟨g2, _, none⟩) hg2).trans (hat2 j b hb).2
        have heq : ∀ W, (binOp .neq 40 (.agg #[.int .i64 a.1, .int .i64 a.2]) (.agg #[.int .i64 b.1, .int .i64 b.2])).run Try.prog W = .ok (.bool (!decide (a = b))) W := fun W => neq48 a b W
        have g1 : g < wr.heap.size := Nat.lt_of_lt_of_le hg HB.out.size
        have g3 : g2 < wr.heap.size := Nat.lt_of_lt_of_le hg2 HB.out.size
        have r1 : (0 : Int) ≤ (j : Int) := by omega
        have r2 : (j : Int) < (n : Int) := by omega
        have HA := Lib.hid ha
        have HBb := Lib.hid hb
        clear hat hat2 ha hb
        by_cases hab : a = b
        · have HX2 : Hid (∀ x, x < j + 1 → l[x]? = k[x]?) := Lib.hid fun x hx => by
            by_cases h : x = j
            · subst h; rw [HA.out, HBb.out, hab]
            · exact HX.out x (by omega)
          subst hab
          simp only [decide_true, Bool.not_true] at heq
          go_wp2_with fail
          go_quiet (fail)
          go_wp2_with fail
          go_roundw
          case rel => exact ⟨j + 1, by omega, by go_num, HX2, Lib.hid (below_drewN HB.out _)⟩
          case measure => simp [intOf]; omega
        · have HF := Lib.hid (HS.out j hlt (by rw [HA.out, HBb.out]; simpa using hab))
          simp only [hab, decide_false, Bool.not_false] at heq
          clear hab
          go_wp2_with fail
          go_quiet (fail)
          go_wp2_with fail
          go_ret
          exact ⟨by rw [HF.out]; rfl, below_drewN HB.out _⟩
      · have HF := Lib.hid (HE.out fun x hx => HX.out x (by omega))
        go_wp2_with fail
        go_ret
        exact ⟨by rw [HF.out]; rfl, HB.out⟩
  · have HF : Hid (decide (l = k) = false) := Lib.hid (by simp only [decide_eq_false_iff_not]; rintro rfl; omega)
    have hnn : ((n : Int) != (m : Int)) = true := by simp; omega
    have hnn2 : ((n : Int) == (m : Int)) = false := by simp; omega
    clear hl hk hp hq hnm
    go_enter Try.func27, Try.ntmps27
    go_wp2_with fail
    go_ret
    exact ⟨by rw [HF.out]; rfl, Below.refl _ _⟩


end Go.Proofs.Ytggoajpemffbiaa
