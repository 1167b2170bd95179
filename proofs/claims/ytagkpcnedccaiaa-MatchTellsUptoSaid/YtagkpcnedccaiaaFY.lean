/-
  slices.Compact at links, walked: the function.; Links put in order (slices.SortFunc at links).
-/
import Derived.Test.YtagkpcnedccaiaaFX
namespace Go.Proofs.Ytagkpcnedccaiaa
open Go.RowKit
set_option maxRecDepth 20000
set_option linter.unusedVariables false
set_option linter.unusedSimpArgs false

theorem compact_none (p : Option Addr) (c : Nat) (w : World) : Calls Try.prog 32 #[.slice p 0 c] w fun e w' => e = .returned (.slice p 0 c) ∧ w = w' := by
 go_enter Try.func32, Try.ntmps32
 go_wp2
 go_ret
 exact ⟨rfl, rfl⟩
def CmpPost (w : World) (g c : Nat) (l : List P2) (e : Ending) (w' : World) : Prop :=
 e = .returned (.slice (some ⟨g, 0, none⟩) (ddTo l l.length).length c) ∧ (∀ (i : Nat) (p : P2), (ddTo l l.length)[i]? = some p → w'.cell? ⟨g, i * 2, none⟩ = some (.int .i64 p.1) ∧ w'.cell? ⟨g, i * 2 + 1, none⟩ = some (.int .i64 p.2)) ∧ Wr g w w'
theorem post_all {w w' : World} {g c : Nat} {l : List P2} (h : RowP w' g l) (ha : Apart l l.length) (hw : Wr g w w') : CmpPost w g c l (.returned (.slice (some ⟨g, 0, none⟩) l.length c)) w' := by
 have e : ddTo l l.length = l := by rw [ddTo_apart (Nat.le_refl _) ha, List.take_length]
 unfold CmpPost
 rw [e]
 exact ⟨rfl, h.at_, hw⟩
/-- The row while it is made shorter. -/
structure CInv (l : List P2) (m kk : Nat) (dk : List P2) : Prop where
 len : dk.length = l.length
 is : kk = (ddTo l m).length
 low : dk.take kk = ddTo l m
 high : ∀ i, m ≤ i + 1 → dk[i]? = l[i]?
 lt : kk < m
theorem CInv.skip {l : List P2} {m kk : Nat} {dk : List P2} {x : P2} (h : CInv l (m + 1) kk dk) (h1 : l[m + 1]? = some x) (h2 : l[m]? = some x) : CInv l (m + 2) kk dk := by
 have e := ddTo_same h1 h2
 exact ⟨h.len, by rw [e]; exact h.is, by rw [e]; exact h.low, fun i hi => h.high i (by omega), by have := h.lt; omega⟩
theorem CInv.keep {l : List P2} {m kk : Nat} {dk : List P2} {x y : P2} (h : CInv l (m + 1) kk dk) (h1 : l[m + 1]? = some x) (h2 : l[m]? = some y) (hne : x ≠ y) : CInv l (m + 2) (kk + 1) (dk.set kk x) := by
 have e := ddTo_next h1 h2 hne
 have hl := h.lt
 have hm : m + 1 < l.length := (List.getElem?_eq_some_iff.1 h1).1
 have hd := h.len
 refine ⟨by rw [List.length_set]; exact h.len, by rw [e, List.length_append, ← h.is]; rfl, ?_, fun i hi => ?_, by omega⟩
 ·rw [e, List.take_add_one, List.getElem?_set, if_pos rfl, if_pos (by omega), List.take_set_of_le (Nat.le_refl _), h.low]; rfl
 ·rw [List.getElem?_set, if_neg (by omega)]; exact h.high i (by omega)
set_option maxHeartbeats 8000000 in
theorem compact_any (g n c : Nat) (l : List P2) (w : World) (h : RowP w g l) (hn : l.length = n) (hm : n ≤ 100) (hc : n ≤ c) :
  Calls Try.prog 32 #[.slice (some ⟨g, 0, none⟩) n c] w (CmpPost w g c l) := by
 obtain ⟨i65, hi65, hy0, hy1, hy2⟩ : ∃ i65, Try.prog.info? 65 = some i65 ∧ i65.zero = some (.agg #[.int .i64 0, .int .i64 0]) ∧ i65.size = 2 ∧ i65.bytes = 16 := by
  refine ⟨_, rfl, ?_, ?_, ?_⟩ <;> kernel_rfl
 have HR := Lib.hid h
 have HN := Lib.hid hn
 have hg := h.lt
 clear h hn
 by_cases h2 : n < 2
 ·have HF : Hid (∀ w', RowP w' g l → Wr g w w' → CmpPost w g c l (.returned (.slice (some ⟨g, 0, none⟩) n c)) w') := Lib.hid fun w' hr hw => by
   have := post_all (c := c) hr (fun j x hj => by have := HN.out; omega) hw
   rwa [HN.out] at this
  go_enter Try.func32, Try.ntmps32
  go_wp2_with fail
  go_ret
  exact HF.out _ HR.out (Wr.refl _ _)
 ·go_enter Try.func32, Try.ntmps32
  go_wp2_with fail
  go_loopw [3] (fun i wr => ∃ (k q : Nat), 1 ≤ k ∧ k ≤ n ∧ i = .int .i64 k ∧ wr = w.drewN q ∧ Hid (Apart l k)) (fun i _ => n - (intOf i).toNat)
  case atStart => exact ⟨1, 0, by omega, by omega, rfl, rfl, Lib.hid (fun j x hj => by omega)⟩
  case round =>
   obtain ⟨k, q, hk1, hk, rfl, hwr, HA⟩ := hrel
   have HRr : Hid (RowP wr g l) := Lib.hid (by rw [hwr]; exact HR.out.drewN q)
   have HWr : Hid (Wr g w wr) := Lib.hid (by rw [hwr]; exact Wr.drewN g w q)
   have HWQ := Lib.hid hwr
   clear hwr
   by_cases hlt : k < n
   ·obtain ⟨j, hj⟩ : ∃ j, k = j + 1 := ⟨k - 1, by omega⟩
    obtain ⟨x, hx⟩ : ∃ x, l[k]? = some x := ⟨_, List.getElem?_eq_getElem (by have := HN.out; omega)⟩
    obtain ⟨y, hy⟩ : ∃ y, l[j]? = some y := ⟨_, List.getElem?_eq_getElem (by have := HN.out; omega)⟩
    obtain ⟨c0, c1⟩ := HRr.out.at_ k x hx
    obtain ⟨d0, d1⟩ := HRr.out.at_ j y hy
    have hk2 : ((k : Int) - 1) = (j : Nat) := by omega
    have r1 : (0 : Int) ≤ (k : Int) := by omega
    have r2 : (k : Int) < (n : Int) := by omega
    have r3 : (0 : Int) ≤ (j : Int) := by omega
    have r4 : (j : Int) < (n : Int) := by omega
    have hgr : g < wr.heap.size := HRr.out.lt
    have HJ := Lib.hid hj
    have HX := Lib.hid hx
    have HY := Lib.hid hy
    have he := fun W => eql65 x y W
    clear hj hx hy
    by_cases hxy : x = y
    ·have HXY := Lib.hid hxy
     simp only [hxy, decide_true] at he
     subst hxy
     have HST : Hid (CInv l (k + 0 + 1) k l) := Lib.hid (by
      have e : ddTo l (k + 1) = l.take k := by
       have hj := HJ.out
       subst hj
       rw [ddTo_same HX.out HY.out]
       exact ddTo_apart (by have := HN.out; omega) HA.out
      exact ⟨rfl, by rw [Nat.add_zero, e, List.length_take]; have := HN.out; omega, by rw [Nat.add_zero, e], fun _ _ => rfl, by omega⟩)
     have HJ0 : Hid (k = j + 1) := HJ
     go_wp2_with fail
     go_quiet (fail)
     have HRq := Lib.hid (HRr.out.drewN nq)
     have HWq := Lib.hid (HWr.out.trans (Wr.drewN g wr nq))
     clear c0 c1 d0 d1 hgr he HWQ HRr HWr
     generalize wr.drewN nq = Wq at *
     obtain ⟨r, hr⟩ : ∃ r, n - k = r := ⟨_, rfl⟩
     obtain ⟨cr, hcr⟩ : ∃ cr, c - k = cr := ⟨_, rfl⟩
     have hrn : n = k + r := by omega
     have hrc : r ≤ cr := by omega
     have hr1 : 1 ≤ r := by omega
     have hr9 : r ≤ 100 := by omega
     have HRN := Lib.hid hrn
     have HCR := Lib.hid hcr
     clear hrn
     go_wp2_with fail
     clear hr hcr
     have HRW : Hid (RowP Wq g l ∧ Wr g w Wq) := Lib.hid ⟨HRq.out, HWq.out⟩
     clear HRq HWq
     go_loopw [3, 5] (fun v3 v5 wi => ∃ (kk jj : Nat) (dk : List P2), v3 = .int .i64 kk ∧ v5 = .int .i64 (jj + 1 : Nat) ∧ jj + 1 ≤ r ∧ kk ≤ k + jj ∧ Hid (CInv l (k + jj + 1) kk dk) ∧ Hid (RowP wi g dk) ∧ Hid (Wr g w wi)) (fun _ v5 _ => r - (intOf v5).toNat)
     case atStart => exact ⟨k, 0, l, rfl, rfl, by omega, by omega, HST, Lib.hid HRW.out.1, Lib.hid HRW.out.2⟩
     case round =>
      obtain ⟨kk, jj, dk, rfl, rfl, hjr, hkj, HC, HRd, HWd⟩ := hrel
      clear HST HRW
      have hdl : dk.length = n := by rw [HC.out.len]; exact HN.out
      have HDL := Lib.hid hdl
      have hgr : g < wr.heap.size := HRd.out.lt
      by_cases hlt2 : jj + 1 < r
      ·obtain ⟨u, hu⟩ : ∃ u, l[k + jj + 1]? = some u := ⟨_, List.getElem?_eq_getElem (by have := HN.out; have := HRN.out; omega)⟩
       obtain ⟨v, hv⟩ : ∃ v, l[k + jj]? = some v := ⟨_, List.getElem?_eq_getElem (by have := HN.out; have := HRN.out; omega)⟩
       obtain ⟨old, ho⟩ : ∃ old, dk[kk]? = some old := ⟨_, List.getElem?_eq_getElem (by have := HRN.out; omega)⟩
       obtain ⟨e0, e1⟩ := HRd.out.at_ (k + jj + 1) u (by rw [HC.out.high _ (by omega)]; exact hu)
       obtain ⟨f0, f1⟩ := HRd.out.at_ (k + jj) v (by rw [HC.out.high _ (by omega)]; exact hv)
       obtain ⟨o0, o1⟩ := HRd.out.at_ kk old ho
       have z0 := HRd.out.fz (kk * 2) (by have := HRN.out; omega)
       have z1 := HRd.out.fz (kk * 2 + 1) (by have := HRN.out; omega)
       rw [show (k + jj + 1) * 2 = k * 2 + (jj + 1) * 2 by omega] at e0 e1
       rw [show (k + jj) * 2 = k * 2 + jj * 2 by omega] at f0 f1
       have HU := Lib.hid hu
       have HV := Lib.hid hv
       have hnq := fun W => neq65 u v W
       have hkn : kk < n := by have := HRN.out; omega
       have q1 : (((jj + 1 : Nat) : Int) - 1) = (jj : Nat) := by omega
       have q2 : (0 : Int) ≤ ((jj + 1 : Nat) : Int) := by omega
       have q3 : ((jj + 1 : Nat) : Int) < (r : Int) := by omega
       have q4 : (0 : Int) ≤ (jj : Int) := by omega
       have q5 : (jj : Int) < (r : Int) := by omega
       have q6 : (0 : Int) ≤ (kk : Int) := by omega
       have q7 : (kk : Int) < (n : Int) := by omega
       obtain ⟨j1, hj1⟩ : ∃ j1, j1 = jj + 1 := ⟨_, rfl⟩
       rw [← hj1] at e0 e1 q1 q2 q3 ⊢
       have HJ1 := Lib.hid hj1
       have hjr1 : j1 < r := by omega
       clear hu hv ho hdl hj1 hlt2 hjr hkj
       by_cases huv : u = v
       ·have HC2 : Hid (CInv l (k + j1 + 1) kk dk) := Lib.hid (by
         have := HC.out.skip HU.out (by rw [huv]; exact HV.out)
         have e := HJ1.out
         rw [show k + j1 + 1 = k + jj + 2 by omega]; exact this)
        simp only [huv, decide_true, Bool.not_true] at hnq
        have HLE : Hid (kk ≤ k + j1) := Lib.hid (by have := HC.out.lt; have := HJ1.out; omega)
        subst huv
        go_wp2_with fail
        go_quiet (fail)
        go_wp2_with fail
        go_roundw
        case rel => exact ⟨kk, j1, dk, rfl, by go_num, by omega, HLE.out, HC2, Lib.hid (HRd.out.drewN _), Lib.hid (HWd.out.trans (Wr.drewN g wr _))⟩
        case measure => simp [intOf]; omega
       ·have HC2 : Hid (CInv l (k + j1 + 1) (kk + 1) (dk.set kk u)) := Lib.hid (by
         have := HC.out.keep HU.out HV.out huv
         have e := HJ1.out
         rw [show k + j1 + 1 = k + jj + 2 by omega]; exact this)
        have HLE : Hid (kk + 1 ≤ k + j1) := Lib.hid (by have := HC.out.lt; have := HJ1.out; omega)
        simp only [huv, decide_false, Bool.not_false] at hnq
        clear huv
        go_wp2_with fail
        go_quiet (fail)
        have HRq := Lib.hid (HRd.out.drewN nq)
        have HWq := Lib.hid (HWd.out.trans (Wr.drewN g wr nq))
        have HPq : Hid (RowP (((wr.drewN nq).setCell ⟨g, kk * 2, none⟩ (.int .i64 u.1)).setCell ⟨g, kk * 2 + 1, none⟩ (.int .i64 u.2)) g (dk.set kk u)) := Lib.hid (HRq.out.put (by rw [HDL.out]; exact hkn) u)
        have HWp := Lib.hid (HWq.out.trans (wr_put (wr.drewN nq) g kk u))
        have e0' : (wr.drewN nq).cell? ⟨g, k * 2 + j1 * 2, none⟩ = some (.int .i64 u.1) := e0
        have e1' : (wr.drewN nq).cell? ⟨g, k * 2 + j1 * 2 + 1, none⟩ = some (.int .i64 u.2) := e1
        have o0' : (wr.drewN nq).cell? ⟨g, kk * 2, none⟩ = some (.int .i64 old.1) := o0
        have o1' : (wr.drewN nq).cell? ⟨g, kk * 2 + 1, none⟩ = some (.int .i64 old.2) := o1
        have z0' : (wr.drewN nq).frozen? ⟨g, kk * 2, none⟩ = false := z0
        have z1' : (wr.drewN nq).frozen? ⟨g, kk * 2 + 1, none⟩ = false := z1
        have hgr' : g < (wr.drewN nq).heap.size := hgr
        clear e0 e1 f0 f1 o0 o1 z0 z1 hgr hnq
        generalize wr.drewN nq = Wp at *
        go_wp2_with fail
        go_roundw
        case rel => exact ⟨kk + 1, j1, _, by go_num, by go_num, by omega, HLE.out, HC2, HPq, HWp⟩
        case measure => simp [intOf]; omega
      ·have hjn : k + jj + 1 = n := by have := HRN.out; omega
       have HCn : Hid (CInv l n kk dk) := Lib.hid (by have := HC.out; rwa [hjn] at this)
       have hkn : kk < n := HCn.out.lt
       have q6 : (0 : Int) ≤ (kk : Int) := by omega
       have q7 : (kk : Int) ≤ (n : Int) := by omega
       have q8 : (kk : Int) ≤ (c : Int) := by omega
       have HCLR := Lib.hid fun ty => clear_row wr g kk n (c - kk) dk ty HRd.out HDL.out hkn
       obtain ⟨r2, hr2⟩ : ∃ r2, n - kk = r2 := ⟨_, rfl⟩
       obtain ⟨c2, hc2⟩ : ∃ c2, c - kk = c2 := ⟨_, rfl⟩
       rw [hr2, hc2] at HCLR
       obtain ⟨w2, hcl, hw2, hlow⟩ := HCLR.out 0
       have hcl2 : ∀ ty, (Builtin.clear_ #[64] ty #[.slice (some ⟨g, kk * 2, none⟩) r2 c2]).run Try.prog wr = .ok (.tuple #[]) w2 := fun ty => by
        obtain ⟨w3, h3, _, _⟩ := HCLR.out ty
        exact hcl
       have HPOST : Hid (CmpPost w g c l (.returned (.slice (some ⟨g, 0, none⟩) kk c)) w2) := Lib.hid (by
        unfold CmpPost
        rw [HN.out]
        refine ⟨by rw [HCn.out.is], fun i p hi => ?_, HWd.out.trans hw2⟩
        have hik : i < kk := by rw [HCn.out.is]; exact (List.getElem?_eq_some_iff.1 hi).1
        rw [← HCn.out.low, List.getElem?_take, if_pos hik] at hi
        obtain ⟨a, b⟩ := HRd.out.at_ i p hi
        exact ⟨(hlow _ (by omega)).trans a, (hlow _ (by omega)).trans b⟩)
       clear hjn hcl hw2 hlow hdl
       go_wp2_with fail
       go_ret
       exact HPOST.out
    ·simp only [hxy, decide_false] at he
     have HA2 : Hid (Apart l (k + 1)) := Lib.hid fun i z hi hz => by
      by_cases h : i = j
      ·subst h
       rw [show i + 1 = k by have := HJ.out; omega, HX.out] at hz
       cases hz
       rw [HY.out]; intro e; cases e; exact hxy rfl
      ·exact HA.out i z (by have := HJ.out; omega) hz
     clear hxy
     go_wp2_with fail
     go_quiet (fail)
     go_wp2_with fail
     go_roundw
     case rel => exact ⟨k + 1, q + nq, by omega, by omega, by go_num, by rw [HWQ.out, World.drewN_drewN], HA2⟩
     case measure => simp [intOf]; omega
   ·have hkn : k = n := by omega
    have HF : Hid (CmpPost w g c l (.returned (.slice (some ⟨g, 0, none⟩) n c)) wr) := Lib.hid (by
     have := post_all (c := c) HRr.out (by rw [HN.out, ← hkn]; exact HA.out) HWr.out
     rwa [HN.out] at this)
    clear hkn
    go_wp2_with fail
    go_ret
    exact HF.out
end Go.Proofs.Ytagkpcnedccaiaa

namespace Go.Proofs.Ytagkpcnedccaiaa
open Go.RowKit Go.Sort
set_option maxRecDepth 20000
set_option linter.unusedVariables false
set_option linter.unusedSimpArgs false

def srt (l : List P2) : List P2 := l.mergeSort fun x y => !ltL y x
theorem srt_mem (l : List P2) (x : P2) : x ∈ srt l ↔ x ∈ l := (List.mergeSort_perm l _).mem_iff
theorem srt_len (l : List P2) : (srt l).length = l.length := (List.mergeSort_perm l _).length_eq
theorem srt_sorted (l : List P2) : (srt l).Pairwise fun a b => plt b a = false := by
 have h := List.pairwise_mergeSort (le := fun x y => !ltL y x) (fun a b c h1 h2 => by
  rw [ltL_plt] at *
  simp only [Bool.not_eq_true'] at *
  cases h : plt c a with
  | false => rfl
  | true =>
   have a1 : ¬ plt b a = true := by simp [h1]
   have a2 : ¬ plt c b = true := by simp [h2]
   rw [plt_iff] at a1 a2 h
   omega) (fun a b => by
  rw [ltL_plt]
  cases h1 : plt b a with
  | false => rfl
  | true => rw [plt_asym h1]; rfl) l
 unfold srt
 refine h.imp fun {a b} hab => ?_
 rw [ltL_plt] at hab
 simpa using hab
theorem puts_srt (l : List P2) : ddTo (srt (lnk l)) (srt (lnk l)).length = puts l := ddTo_puts l _ (srt_sorted _) (srt_mem _)

theorem holds_of {w : World} {g : Nat} {l : List P2} (h : RowP w g l) : HoldsK pc 2 w g 0 l.toArray := fun j hj => by
 rw [size_flatK] at hj
 have hj' : j < l.length * 2 := by simpa using hj
 rw [get_flatK _ _ _ _ hj]
 obtain ⟨p, hp⟩ : ∃ p, l[j / 2]? = some p := ⟨_, List.getElem?_eq_getElem (by omega)⟩
 have e : l.toArray[j / 2]! = p := by
  have h2 : j / 2 < l.toArray.size := by simp; omega
  rw [getElem!_pos l.toArray (j / 2) h2]
  obtain ⟨_, e⟩ := List.getElem?_eq_some_iff.1 hp
  simpa using e
 rw [e]
 obtain ⟨c0, c1⟩ := h.at_ _ p hp
 refine ⟨?_, by rw [Nat.zero_add]; exact h.fz j hj'⟩
 rw [Nat.zero_add]
 rcases Nat.lt_or_ge (j % 2) 1 with h1 | h1
 ·rw [show j % 2 = 0 by omega]
  rw [show j / 2 * 2 = j by omega] at c0
  rw [c0]; rfl
 ·rw [show j % 2 = 1 by omega]
  rw [show j / 2 * 2 + 1 = j by omega] at c1
  rw [c1]; rfl
theorem row_of {w : World} {g : Nat} {l : List P2} (h : HoldsK pc 2 w g 0 l.toArray) (hg : g < w.heap.size) : RowP w g l := by
 refine ⟨hg, fun i p hi => ?_, fun j hj => ?_⟩
 ·have hil : i < l.length := (List.getElem?_eq_some_iff.1 hi).1
  have e : l.toArray[i]! = p := by
   have h2 : i < l.toArray.size := by simpa using hil
   rw [getElem!_pos l.toArray i h2]
   obtain ⟨_, e⟩ := List.getElem?_eq_some_iff.1 hi
   simpa using e
  have c0 := (h.cell (i := i) (c := 0) (by simpa using hil) (by omega)).1
  have c1 := (h.cell (i := i) (c := 1) (by simpa using hil) (by omega)).1
  rw [e, Nat.zero_add] at c0 c1
  exact ⟨c0, c1⟩
 ·have hil : j / 2 < l.toArray.size := by simp; omega
  have := (h.cell (i := j / 2) (c := j % 2) hil (by omega)).2
  rwa [Nat.zero_add, show j / 2 * 2 + j % 2 = j by omega] at this
theorem OwnP.row {T : TypeId} {w : World} {base g c : Nat} {l : List P2} (h : OwnP T w base (.slice (some ⟨g, 0, none⟩) l.length c) l) : RowP w g l := by
 refine ⟨?_, fun i p hi => h.cells i p hi, fun j hj => World.ownsRow.frozenAt (show w.ownsRow base T 2 (.slice (some ⟨g, 0, none⟩) l.length c) l.length (pcells l) from h) j⟩
 rcases h.slice with ⟨h0, _⟩ | ⟨g', c', hv, _, hg, _⟩
 ·cases h0
 ·simp only [Value.slice.injEq, Option.some.injEq, Addr.mk.injEq, and_true] at hv
  obtain ⟨rfl, _, _⟩ := hv
  exact hg
theorem sort_below {N : Nat} {W w : World} (h : Below N W w) {g : Nat} (hN : N ≤ g) (hg : g < w.heap.size) (n : Nat) (d : Array P2) (os : Array Obj) : Below N W (sortWorldK pc 2 w g 0 n d os) := by
 have hs : (putRowK pc 2 (Sort.ahead w n) g 0 d).heap.size = w.heap.size := by
  show (w.heap.modify g _).size = _; simp
 have h1 : Below N W (putRowK pc 2 (Sort.ahead w n) g 0 d) := by
  refine h.trans ⟨rfl, rfl, rfl, by rw [hs]; exact Nat.le_refl _, fun k hk => ?_⟩
  show (w.heap.modify g _)[k]? = w.heap[k]?
  rw [Array.getElem?_modify, if_neg (by omega)]
 exact grow_below h1 (by rw [hs]; omega) 0 os
theorem sort_row {w : World} {g : Nat} {l m : List P2} (h : RowP w g l) (hs : m.length = l.length) (n : Nat) (os : Array Obj) : RowP (sortWorldK pc 2 w g 0 n m.toArray os) g m := by
 have hz : (putRowK pc 2 (Sort.ahead w n) g 0 m.toArray).heap.size = w.heap.size := by
  show (w.heap.modify g _).size = _; simp
 refine row_of (holdsK_grow pc 2 _ os g 0 _ (by rw [hz]; exact h.lt) (holdsK_putRowK pc 2 _ g 0 l.toArray _ (holdsK_ahead pc 2 w n g 0 _ (holds_of h)) (by simpa using hs))) ?_
 show g < ((putRowK pc 2 (Sort.ahead w n) g 0 m.toArray).heap ++ os).size
 have := h.lt
 simp; omega

theorem sort_none (p : Option Addr) (c : Nat) (fv : Value) (w : World) : Calls Try.prog 30 #[.slice p 0 c, fv] w fun e w' => e = .returned (.tuple #[]) ∧ w' = w := AnyF.slices_SortFunc_none Try.sortL p c fv w
theorem sort_some (g c : Nat) (l : List P2) (w : World) (h : RowP w g l) (hn : l.length ≤ 100) :
  Calls Try.prog 30 #[.slice (some ⟨g, 0, none⟩) l.length c, .func (.func 31) #[] #[]] w fun e w' => e = .returned (.tuple #[]) ∧ RowP w' g (srt l) ∧ ∀ N W, N ≤ g → Below N W w → Below N W w' := by
 have hsz : l.toArray.size < 4611686018427387904 := by simp; omega
 have hcon := AnyQ.slices_SortFunc_total Try.sortL 2 Try.isAgg65 Try.sizeOf65 pc (fun _ => rfl) (fun x v hv => onep x v hv) cfL swoL 31 #[] g 0 c l.toArray w
  (enters_of Try.func31 (by kernel_rfl) rfl) (fun m os dk hd x y => lorder_any x y _) (holds_of h) h.lt hsz
  (fun x y h1 h2 => by
   have h1' : ltL x y = false := h1
   have h2' : ltL y x = false := h2
   rw [ltL_plt] at h1' h2'
   exact plt_total h1' h2')
 rw [show l.toArray.size = l.length by simp] at hcon
 refine hcon.mono ?_
 rintro e w' ⟨he, n, os, hw⟩
 have hw2 : w' = sortWorldK pc 2 w g 0 n (srt l).toArray os := hw
 refine ⟨he, by rw [hw2]; exact sort_row h (srt_len l) n os, fun N W hN hB => by rw [hw2]; exact sort_below hB hN h.lt n _ os⟩
end Go.Proofs.Ytagkpcnedccaiaa
