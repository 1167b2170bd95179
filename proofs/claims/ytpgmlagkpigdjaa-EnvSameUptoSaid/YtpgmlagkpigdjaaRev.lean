/-
  slices.Reverse at bindings.
-/
import Derived.Test.YtpgmlagkpigdjaaOwn
namespace Go.Proofs.Ytpgmlagkpigdjaa
open Go.RowKit
set_option maxRecDepth 20000
set_option linter.unusedVariables false
set_option linter.unusedSimpArgs false

theorem kp_trans {o : Nat} {a b c : World} (h : Kp o a b) (k : Kp o b c) : Kp o a c := ⟨Nat.le_trans h.size k.size, fun j hj hne => (k.blk j (Nat.lt_of_lt_of_le hj h.size) hne).trans (h.blk j hj hne)⟩
theorem kp_refl (o : Nat) (w : World) : Kp o w w := ⟨Nat.le_refl _, fun _ _ _ => rfl⟩
theorem kp_drew (o : Nat) (w : World) : Kp o w w.drew := ⟨Nat.le_refl _, fun _ _ _ => rfl⟩
/-- After k swaps. -/
structure RevK (l m : List Bi) (k : Nat) : Prop where
  len : m.length = l.length
  get : ∀ i, i < l.length → m[i]? = if i < k ∨ l.length - 1 - i < k then l.reverse[i]? else l[i]?
theorem rev_zero (l : List Bi) : RevK l l 0 := ⟨rfl, fun i _ => by simp⟩
theorem rev_end {l m : List Bi} {k : Nat} (h : RevK l m k) (hk : l.length ≤ 2 * k + 1) : m = l.reverse := by
  apply List.ext_getElem?
  intro i
  rcases Nat.lt_or_ge i l.length with hi | hi
  · rw [h.get i hi]
    split
    · rfl
    · rename_i hc
      have : i = l.length - 1 - i := by omega
      rw [List.getElem?_reverse hi, ← this]
  · rw [List.getElem?_eq_none (by rw [h.len]; exact hi), List.getElem?_eq_none (by simpa using hi)]
theorem rev_swap {l m : List Bi} {k q : Nat} (h : RevK l m k) (hq : q = l.length - 1 - k) (hlt : k < q) {x y : Bi} (hx : m[k]? = some x) (hy : m[q]? = some y) : RevK l ((m.set k y).set q x) (k + 1) := by
  have hl := h.len
  have e1 : l[k]? = some x := by rw [← hx, h.get k (by omega), if_neg (by omega)]
  have e2 : l[q]? = some y := by rw [← hy, h.get q (by omega), if_neg (by omega)]
  refine ⟨by simp [hl], fun i hi => ?_⟩
  by_cases h1 : i = q
  · subst h1
    rw [List.getElem?_set_self (by simp; omega), if_pos (by omega), List.getElem?_reverse hi, show l.length - 1 - i = k by omega, e1]
  · rw [List.getElem?_set_ne (fun e => h1 e.symm)]
    by_cases h2 : i = k
    · subst h2
      rw [List.getElem?_set_self (by omega), if_pos (by omega), List.getElem?_reverse hi, show l.length - 1 - i = q by omega, e2]
    · rw [List.getElem?_set_ne (fun e => h2 e.symm), h.get i hi]
      by_cases h3 : i < k ∨ l.length - 1 - i < k
      · rw [if_pos h3, if_pos (by omega)]
      · rw [if_neg h3, if_neg (by omega)]

set_option maxHeartbeats 8000000 in
theorem reverse_any (w : World) (base : Nat) (v : Value) (l : List Bi) (h : OwnB w base v l) (hn : l.length ≤ 900000) :
    Calls Try.prog 38 #[v] w fun e w' => e = .returned (.tuple #[]) ∧ OwnB w' base v l.reverse ∧ (∀ g, v.ownBlock = some g → Kp g w w') ∧ (v.ownBlock = none → Below w.heap.size w w') ∧ Below base w w' := by
  rcases h.slice with ⟨rfl, rfl⟩ | ⟨g, c, rfl, hb, hg, hc⟩
  · have H := Lib.hid h
    clear h
    go_enter Try.func38, Try.ntmps38
    go_wp2_with fail
    refine wp_loop_rounds 1 ?_
    rw [rounds_succ]
    go_wp2_with fail
    go_end0
    exact ⟨rfl, H.out, fun g hg => by simp [Value.ownBlock] at hg, fun _ => Below.refl _ _, Below.refl _ _⟩
  · have H := Lib.hid h
    obtain ⟨n, hnl⟩ : ∃ n, n = l.length := ⟨_, rfl⟩
    have HN := Lib.hid hnl
    rw [← hnl] at hc hn ⊢
    have hbw : Below base w w := Below.refl _ _
    clear h hnl
    go_enter Try.func38, Try.ntmps38
    go_wp2_with fail
    go_loopw [2, 3] (fun i j wr => ∃ (k : Nat) (jj : Int) (m : List Bi), i = .int .i64 k ∧ j = .int .i64 jj ∧ k ≤ n ∧ jj = (n : Int) - 1 - k ∧ Hid (RevK l m k) ∧ Hid (OwnB wr base (.slice (some ⟨g, 0, none⟩) n c) m) ∧ Hid (Kp g w wr) ∧ Hid (Below base w wr)) (fun i _ _ => n - (intOf i).toNat)
    case atStart => exact ⟨0, _, l, rfl, rfl, by omega, by omega, Lib.hid (rev_zero l), Lib.hid (by rw [HN.out]; exact H.out), Lib.hid (kp_refl _ _), Lib.hid (Below.refl _ _)⟩
    case round =>
      obtain ⟨k, jj, m, rfl, rfl, hk, hjj, HR, HO, HKP, HBW⟩ := hrel
      by_cases hlt : (k : Int) < jj
      · obtain ⟨q, rfl⟩ : ∃ q : Nat, jj = q := ⟨jj.toNat, by omega⟩
        have hml : m.length = n := by rw [HR.out.len, HN.out]
        have HML := Lib.hid hml
        obtain ⟨x, hx⟩ : ∃ x, m[k]? = some x := ⟨_, List.getElem?_eq_getElem (by omega)⟩
        obtain ⟨y, hy⟩ : ∃ y, m[q]? = some y := ⟨_, List.getElem?_eq_getElem (by omega)⟩
        have HO1 : OwnB wr base (.slice (some ⟨g, 0, none⟩) m.length c) m := by rw [hml]; exact HO.out
        obtain ⟨x0, x1, x2, x3, x4, x5⟩ := HO1.at_ k x hx
        obtain ⟨y0, y1, y2, y3, y4, y5⟩ := HO1.at_ q y hy
        have fz : Hid (∀ j, wr.frozen? ⟨g, j, none⟩ = false) := Lib.hid fun j => HO1.frozen j
        have a0 := fz.out (k * 6)
        have a1 := fz.out (k * 6 + 1)
        have a2 := fz.out (k * 6 + 2)
        have a3 := fz.out (k * 6 + 3)
        have a4 := fz.out (k * 6 + 4)
        have a5 := fz.out (k * 6 + 5)
        have b0 := fz.out (q * 6)
        have b1 := fz.out (q * 6 + 1)
        have b2 := fz.out (q * 6 + 2)
        have b3 := fz.out (q * 6 + 3)
        have b4 := fz.out (q * 6 + 4)
        have b5 := fz.out (q * 6 + 5)
        have HP1 := HO1.put k y (by omega)
        rw [show m.length = (m.set k y).length by simp] at HP1
        have HP2 := HP1.put q x (by simp; omega)
        rw [List.length_set, hml] at HP2
        have HP := Lib.hid HP2
        have HRS := Lib.hid (rev_swap HR.out (by rw [HN.out] at hjj; omega) (by omega) hx hy)
        have HK2 := Lib.hid (kp_trans HKP.out (kp_trans (kp_set6 wr g k y) (kp_set6 _ g q x)))
        have r1 : (0 : Int) ≤ (k : Int) := by omega
        have r2 : (k : Int) < (n : Int) := by omega
        have r3 : (q : Int) < (n : Int) := by omega
        have la : k < n := by omega
        have lb : q < n := by omega
        have hne : ¬ k * 6 = q * 6 := by omega
        simp only [set6] at HP HK2
        have HJJ := Lib.hid hjj
        clear HP1 HP2 HO1 hx hy hml hjj
        go_wp2_with fail
        go_region
        go_wp2_with fail
        go_roundw
        case rel =>
          refine ⟨k + 1, (q : Int) - 1, _, by go_num, rfl, by omega, by have := HJJ.out; omega, HRS, Lib.hid (World.ownsRow.drew HP.out), Lib.hid (kp_trans HK2.out (kp_drew _ _)), Lib.hid ?_⟩
          have h0 : base ≤ (⟨g, 0, none⟩ : Addr).block := hb
          exact ((((((((((((HBW.out.setCell (p := ⟨g, _, none⟩) hb _).setCell (p := ⟨g, _, none⟩) hb _).setCell (p := ⟨g, _, none⟩) hb _).setCell (p := ⟨g, _, none⟩) hb _).setCell (p := ⟨g, _, none⟩) hb _).setCell (p := ⟨g, _, none⟩) hb _).setCell (p := ⟨g, _, none⟩) hb _).setCell (p := ⟨g, _, none⟩) hb _).setCell (p := ⟨g, _, none⟩) hb _).setCell (p := ⟨g, _, none⟩) hb _).setCell (p := ⟨g, _, none⟩) hb _).setCell (p := ⟨g, _, none⟩) hb _).drew
        case measure => simp [intOf]; omega
      · have hm : m = l.reverse := rev_end HR.out (by have := HN.out; omega)
        subst hm
        have HJJ := Lib.hid hjj
        clear hjj
        go_wp2_with fail
        go_end0
        refine ⟨rfl, HO.out, fun g' hg' => ?_, fun hg' => by simp [Value.ownBlock] at hg', HBW.out⟩
        simp only [Value.ownBlock, Option.some.injEq] at hg'
        rw [← hg']; exact HKP.out
end Go.Proofs.Ytpgmlagkpigdjaa
