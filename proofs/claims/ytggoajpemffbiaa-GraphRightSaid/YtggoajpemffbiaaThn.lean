/-
  A map behind another one (Then), walked.
-/
import Derived.Test.YtggoajpemffbiaaMpd
namespace Go.Proofs.Ytggoajpemffbiaa
open Go.RowKit
set_option maxRecDepth 20000
set_option linter.unusedVariables false
set_option linter.unusedSimpArgs false

/-- Where a map leads a place; nowhere, if it is none. -/
def thAt (k : List Int) (x : Int) : Int := bif decide (0 ≤ x) then mAt k x else -1
theorem thAt_in {k : List Int} {i : Nat} {y : Int} (h : k[i]? = some y) : thAt k (i : Int) = y := by unfold thAt; simp [mAt_at h]
theorem thAt_out {k : List Int} {x : Int} (h : ¬ (0 ≤ x ∧ x < k.length)) : thAt k x = -1 := by
  unfold thAt
  by_cases h0 : 0 ≤ x
  · have e : k[x.toNat]? = none := List.getElem?_eq_none (by omega)
    simp [h0, mAt, e]
  · simp [h0]
def ThTo (m k : List Int) (i : Nat) (l : List Int) : Prop := l.length = m.length ∧ ∀ j x, j < i → m[j]? = some x → l[j]? = some (thAt k x)
theorem ThTo.put {m k l : List Int} {i : Nat} {x y : Int} (h : ThTo m k i l) (hx : m[i]? = some x) (hy : thAt k x = y) : ThTo m k (i + 1) (l.set i y) := by
  refine ⟨by simp [h.1], fun j z hj hz => ?_⟩
  have hil : i < l.length := by have := (List.getElem?_eq_some_iff.1 hx).1; rw [h.1]; exact this
  rw [List.getElem?_set]
  by_cases hij : i = j
  · subst hij; rw [if_pos rfl, if_pos hil]; rw [hx] at hz; cases hz; rw [hy]
  · rw [if_neg hij]; exact h.2 j z (by omega) hz
theorem ThTo.all {m k l : List Int} (h : ThTo m k m.length l) : l = m.map (thAt k) := by
  apply List.ext_getElem?
  intro i
  by_cases hi : i < m.length
  · obtain ⟨x, hx⟩ : ∃ x, m[i]? = some x := ⟨_, List.getElem?_eq_getElem hi⟩
    rw [h.2 i x hi hx, List.getElem?_map, hx]; rfl
  · rw [List.getElem?_eq_none (by rw [h.1]; omega), List.getElem?_eq_none (by simp; omega)]
set_option maxHeartbeats 8000000 in
theorem then_any (q : Option Addr) (n c : Nat) (m : List Int) (q2 : Option Addr) (n2 c2 : Nat) (k : List Int) (w : World) (hm : IS w q n c m) (hk : IS w q2 n2 c2 k) (hn : n ≤ 1000) :
    Calls Try.prog 16 #[.slice q n c, .slice q2 n2 c2] w fun e w' => ∃ v, e = .returned v ∧ OwnI w' w.heap.size v (m.map (thAt k)) ∧ Below w.heap.size w w' := by
  obtain ⟨i3, hi3, hz0, hz1, hz2⟩ := info_parts info3
  have HM := Lib.hid hm
  have HK := Lib.hid hk
  have HLM := Lib.hid hm.1
  have HLK := Lib.hid hk.1
  clear hm hk
  go_enter Try.func16, Try.ntmps16
  go_wp2_with (at_make; refine wpList_make_full _ rfl _ _ 22 rfl w.heap.size 3 i3 (.int .i64 0) 1 Try.underlying22 hi3 hz0 hz1 .i64 .i64 _ _ n rfl rfl rfl rfl (by rw [hz2]; omega) (by unfold maxLen; omega) (Nat.le_refl _) ?_)
  intro w1 hown hgr
  have HB1 := Lib.hid ((Below.refl w.heap.size w).grown hgr (Nat.le_refl _) (fun k hk => by simp at hk))
  have HO1 : Hid (OwnI w1 w.heap.size (.slice (some ⟨w.heap.size, 0, none⟩) n n) (List.replicate n 0)) := Lib.hid (by
    unfold OwnI
    rw [List.length_replicate]
    have e : (madeCells #[Value.int .i64 0] n).toList = (List.replicate n (0 : Int)).map (Value.int .i64) := by
      rw [toList_madeCells_one]; simp
    rw [← e]; exact hown)
  clear hown hgr
  obtain ⟨g, hg⟩ : ∃ g, g = w.heap.size := ⟨_, rfl⟩
  have HO1' : Hid (OwnI w1 w.heap.size (.slice (some ⟨g, 0, none⟩) n n) (List.replicate n 0)) := Lib.hid (by rw [hg]; exact HO1.out)
  rw [← hg]
  clear HO1
  have HG : Hid (w.heap.size ≤ g) := Lib.hid (by omega)
  clear hg
  go_wp2_with fail
  go_loopw [13] (fun i wr => ∃ (j : Nat) (l : List Int), j ≤ n ∧ i = .int .i64 j ∧ Hid (ThTo m k j l) ∧ Hid (OwnI wr w.heap.size (.slice (some ⟨g, 0, none⟩) n n) l) ∧ Hid (Below w.heap.size w wr)) (fun i _ => n - (intOf i).toNat)
  case atStart => exact ⟨0, _, by omega, rfl, Lib.hid ⟨by rw [List.length_replicate]; exact HLM.out, fun j x h => by omega⟩, HO1', HB1⟩
  case round =>
    obtain ⟨j, l, hj, rfl, HT, HO, HB⟩ := hrel
    clear HO1' HB1
    by_cases hlt : j < n
    · obtain ⟨hxx, h0 | ⟨gm, om, rfl, hcm, hgm, hatm⟩⟩ := HM.out
      · omega
      clear hxx
      obtain ⟨x, hx⟩ : ∃ x, m[j]? = some x := ⟨_, List.getElem?_eq_getElem (by have := HLM.out; omega)⟩
      have c0 := (HB.out.cell (p := ⟨gm, om + j, none⟩) hgm).trans (hatm j x hx)
      have hjl : j < l.length := by have := HT.out.1; have := HLM.out; omega
      obtain ⟨z, hz⟩ : ∃ z, l[j]? = some z := ⟨_, List.getElem?_eq_getElem hjl⟩
      have cz := HO.out.cell j z hz
      have fz := HO.out.frozen j
      have r1 : (0 : Int) ≤ (j : Int) := by omega
      have r2 : (j : Int) < (n : Int) := by omega
      have hO2 := HO.out.put j (-1)
      have hB2 : Below w.heap.size w (wr.setCell ⟨g, j, none⟩ (.int .i64 (-1))) := HB.out.setCell (p := ⟨g, j, none⟩) HG.out _
      have hT2 : thAt k x = -1 → ThTo m k (j + 1) (l.set j (-1)) := fun e => HT.out.put hx e
      by_cases h1 : 0 ≤ x
      · by_cases h2 : x < (n2 : Int)
        · obtain ⟨hxx, h0 | ⟨gk, ok, rfl, hck, hgk, hatk⟩⟩ := HK.out
          · omega
          clear hxx
          obtain ⟨i, rfl⟩ : ∃ i : Nat, x = (i : Int) := ⟨x.toNat, by omega⟩
          obtain ⟨y, hy⟩ : ∃ y, k[i]? = some y := ⟨_, List.getElem?_eq_getElem (by have := HLK.out; omega)⟩
          have ck := (hB2.cell (p := ⟨gk, ok + i, none⟩) hgk).trans (hatk i y hy)
          have HT3 : Hid (ThTo m k (j + 1) ((l.set j (-1)).set j y)) := Lib.hid (by
            have := HT.out.put hx (thAt_in hy)
            rwa [show (l.set j (-1)).set j y = l.set j y from by simp])
          have HO3 := Lib.hid (hO2.put j y)
          have HB3 : Hid (Below w.heap.size w ((wr.setCell ⟨g, j, none⟩ (.int .i64 (-1))).setCell ⟨g, j, none⟩ (.int .i64 y))) := Lib.hid (hB2.setCell (p := ⟨g, j, none⟩) HG.out _)
          obtain ⟨z2, hz2⟩ : ∃ z, (l.set j (-1))[j]? = some z := ⟨_, List.getElem?_eq_getElem (by simpa using hjl)⟩
          have cz2 := hO2.cell j z2 hz2
          have fz2 := hO2.frozen j
          clear hatm hatk hx hy hz hz2 hO2 hB2 hT2 hjl
          go_wp2_with fail
          go_roundw
          case rel => exact ⟨j + 1, _, by omega, by go_num, HT3, HO3, HB3⟩
          case measure => simp [intOf]; omega
        · have HT3 := Lib.hid (hT2 (thAt_out (by have := HLK.out; omega)))
          have HO3 := Lib.hid hO2
          have HB3 := Lib.hid hB2
          clear hatm hx hz hO2 hB2 hT2 hjl
          go_wp2_with fail
          go_roundw
          case rel => exact ⟨j + 1, _, by omega, by go_num, HT3, HO3, HB3⟩
          case measure => simp [intOf]; omega
      · have HT3 := Lib.hid (hT2 (thAt_out (by omega)))
        have HO3 := Lib.hid hO2
        have HB3 := Lib.hid hB2
        clear hatm hx hz hO2 hB2 hT2 hjl
        go_wp2_with fail
        go_roundw
        case rel => exact ⟨j + 1, _, by omega, by go_num, HT3, HO3, HB3⟩
        case measure => simp [intOf]; omega
    · have hjn : j = n := by omega
      have HF : Hid (OwnI wr w.heap.size (.slice (some ⟨g, 0, none⟩) n n) (m.map (thAt k))) := Lib.hid (by
        have h1 := HT.out
        rw [hjn, HLM.out] at h1
        rw [← h1.all]; exact HO.out)
      clear hjn
      go_wp2_with fail
      go_ret
      exact ⟨_, rfl, HF.out, HB.out⟩
end Go.Proofs.Ytggoajpemffbiaa
