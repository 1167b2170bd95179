/-
  The least number of each class (Class), walked.
-/
import Derived.Test.YtagkpcnedccaiaaFS
namespace Go.Proofs.Ytagkpcnedccaiaa
open Go.RowKit
set_option maxRecDepth 20000
set_option linter.unusedVariables false
set_option linter.unusedSimpArgs false

theorem info3 : (Try.prog.info? 3).map (fun i => (i.zero, i.size, i.bytes)) = some (some (.int .i64 0), 1, 8) := by kernel_rfl
theorem class_none (n : Int) (p : Option Addr) (m c : Nat) (w : World) (hn : n < 0 ∨ 16777216 < n) :
  Calls Try.prog 14 #[.int .i64 n, .slice p m c] w fun e w' => e = .returned (.slice none 0 0) ∧ w = w' := by
 by_cases h : n < 0
 ·clear hn
  go_enter Try.func14, Try.ntmps14
  go_wp2_with fail
  go_ret
  exact ⟨rfl, rfl⟩
 ·have h2 : 16777216 < n := by omega
  clear hn
  go_enter Try.func14, Try.ntmps14
  go_wp2_with fail
  go_ret
  exact ⟨rfl, rfl⟩

theorem rt_id (n : Nat) : Rt n id id := fun x _ => .inl ⟨rfl, rfl⟩
theorem take_snoc {α : Type} {l : List α} {k : Nat} {x : α} (h : l[k]? = some x) : l.take (k + 1) = l.take k ++ [x] := by
 rw [List.take_add_one, h]; rfl
set_option maxHeartbeats 8000000 in
theorem class_any (n : Nat) (q : Option Addr) (m c : Nat) (l : List P2) (w : World) (h : PS w q m c l) (hm : m ≤ 60) (hn : n ≤ 60) :
  Calls Try.prog 14 #[.int .i64 n, .slice q m c] w fun e w' => ∃ v, e = .returned v ∧ OwnI w' w.heap.size v (rowF n (cls n l)) ∧ Below w.heap.size w w' := by
 obtain ⟨i3, hi3, hz0, hz1, hz2⟩ := info_parts info3
 have HP := Lib.hid h
 obtain ⟨hml, _⟩ := h
 have HML := Lib.hid hml
 have hn0 : ¬ (n : Int) < 0 := by omega
 have hn1 : ¬ (16777216 : Int) < (n : Int) := by omega
 clear hml
 go_enter Try.func14, Try.ntmps14
 go_wp2_with (at_make; refine wpList_make_full _ rfl _ _ 61 rfl w.heap.size 3 i3 (.int .i64 0) 1 Try.underlying61 hi3 hz0 hz1 .i64 .i64 _ _ n rfl rfl rfl rfl (by rw [hz2]; omega) (by unfold maxLen; omega) (Nat.le_refl _) ?_)
 intro w1 hown hgr
 have HB1 := Lib.hid ((Below.refl w.heap.size w).grown hgr (Nat.le_refl _) (fun k hk => by simp at hk))
 have HO1 : Hid (OwnI w1 w.heap.size (.slice (some ⟨w.heap.size, 0, none⟩) n n) (rowF n (fun _ => 0))) := Lib.hid (by
  unfold OwnI
  rw [rowF_len]
  have e : (madeCells #[Value.int .i64 0] n).toList = (rowF n (fun _ => 0)).map (Value.int .i64) := by
   rw [toList_madeCells_one]
   refine (List.eq_replicate_iff.2 ⟨by simp [rowF], fun b hb => ?_⟩).symm
   simp only [rowF, List.map_map] at hb
   obtain ⟨x, _, rfl⟩ := List.mem_map.1 hb
   rfl
  rw [← e]; exact hown)
 clear hown hgr
 obtain ⟨g, hg⟩ : ∃ g, g = w.heap.size := ⟨_, rfl⟩
 rw [← hg] at HO1 HB1 ⊢
 have HG := Lib.hid hg
 clear hg
 go_wp2_with fail
 go_loopw [19] (fun i wr => ∃ (k : Nat), k ≤ n ∧ i = .int .i64 k ∧ Hid (OwnI wr g (.slice (some ⟨g, 0, none⟩) n n) (rowF n (fun x => if x < k then x else 0))) ∧ Hid (Below g w wr)) (fun i _ => n - (intOf i).toNat)
 case atStart => exact ⟨0, by omega, rfl, Lib.hid (by have := HO1.out; rwa [rowF_congr (e := fun _ => 0) (fun x _ => by simp)]), HB1⟩
 case round =>
  obtain ⟨k, hk, rfl, HO, HB⟩ := hrel
  by_cases hlt : k < n
  ·have fz := HO.out.frozen
   have r1 : (0 : Int) ≤ (k : Int) := by omega
   have r2 : (k : Int) < (n : Int) := by omega
   obtain ⟨cc, hcc⟩ : ∃ cc, wr.cell? ⟨g, k, none⟩ = some cc := ⟨_, HO.out.cell k _ (rowF_get n _ k hlt)⟩
   have HO2 : Hid (OwnI (wr.setCell ⟨g, k, none⟩ (.int .i64 (k : Nat))) g (.slice (some ⟨g, 0, none⟩) n n) (rowF n (fun x => if x < k + 1 then x else 0))) := Lib.hid (by
    have := HO.out.put k (k : Nat)
    rw [rowF_set] at this
    rwa [rowF_congr (e := fun x => if x < k + 1 then x else 0) (fun x _ => by
     simp only [updF]
     by_cases h1 : x = k
     ·subst h1; simp
     ·rw [if_neg h1]
      by_cases h2 : x < k
      ·rw [if_pos h2, if_pos (by omega)]
      ·rw [if_neg h2, if_neg (by omega)])] at this)
   have HB2 := Lib.hid (HB.out.setCell (p := ⟨g, k, none⟩) (Nat.le_refl _) (.int .i64 (k : Nat)))
   clear HO HB
   go_wp2_with fail
   go_roundw
   case rel => exact ⟨k + 1, by omega, by go_num, HO2, HB2⟩
   case measure => simp [intOf]; omega
  ·have hkn : k = n := by omega
   have HO2 : Hid (OwnI wr g (.slice (some ⟨g, 0, none⟩) n n) (rowF n id)) := Lib.hid (by
    have := HO.out
    rwa [rowF_congr (e := id) (fun x hx => by simp [hkn, hx])] at this)
   have HBW := Lib.hid HB.out
   clear HO HB hkn
   go_wp2_with fail
   have HRT := Lib.hid (rt_id n)
   obtain ⟨wo, hwo⟩ : ∃ wo : World, wo = wr := ⟨_, rfl⟩
   subst hwo
   go_loopw [29] (fun i wi => ∃ (k : Nat) (d : Nat → Nat), k ≤ m ∧ i = .int .i64 k ∧ Hid (OwnI wi g (.slice (some ⟨g, 0, none⟩) n n) (rowF n d)) ∧ Hid (Rt n d (cls n (l.take k))) ∧ Hid (Below g w wi)) (fun i _ => m - (intOf i).toNat)
   case atStart => exact ⟨0, id, by omega, rfl, HO2, HRT, HBW⟩
   case round =>
    obtain ⟨j, d, hj, rfl, HO, HR, HB⟩ := hrel
    clear HO2 HRT HBW
    by_cases hlt2 : j < m
    ·obtain ⟨hmm, h0 | ⟨gb, o, rfl, hcb, hgb, hat⟩⟩ := HP.out
     ·omega
     clear hmm
     obtain ⟨p, hp⟩ : ∃ p, l[j]? = some p := ⟨_, List.getElem?_eq_getElem (by have := HML.out; omega)⟩
     obtain ⟨v0, v1⟩ := hat j p hp
     have hgg : gb < g := by rw [HG.out]; exact hgb
     rw [← HB.out.cell (p := ⟨gb, _, none⟩) hgg] at v0 v1
     have hgs : g < wr.heap.size := HO.out.n.2.2.1
     have hgb2 : gb < wr.heap.size := by omega
     have s1 : (0 : Int) ≤ (j : Int) := by omega
     have s2 : (j : Int) < (m : Int) := by omega
     have HCL : Hid (cls n (l.take (j + 1)) = mrgP n (cls n (l.take j)) p) := Lib.hid (by rw [take_snoc hp, cls_snoc])
     have hbz := HB.out.size
     have HW1 := Lib.hid ((Below.refl wr.heap.size wr).alloc (Nat.le_refl _) (.cells #[.int .i64 p.1, .int .i64 p.2] 48))
     have HO1' := Lib.hid (HO.out.step HW1.out)
     have HB1' := Lib.hid (HB.out.trans (HW1.out.mono (by omega)))
     clear hp hat
     by_cases hin : inR n p = true
     ·obtain ⟨i0, i1, i2, i3'⟩ := (inR_iff n p).1 hin
      obtain ⟨a, ha⟩ : ∃ a : Nat, p.1 = a := ⟨p.1.toNat, by omega⟩
      obtain ⟨b, hb⟩ : ∃ b : Nat, p.2 = b := ⟨p.2.toNat, by omega⟩
      have HCL2 : Hid (cls n (l.take (j + 1)) = mrg (cls n (l.take j)) a b) := Lib.hid (by rw [HCL.out]; simp [mrgP, hin, ha, hb])
      rw [ha] at v0 HW1 HO1' HB1' i0 i1
      rw [hb] at v1 HW1 HO1' HB1' i2 i3'
      have ha1 : a < n := by omega
      have hb1 : b < n := by omega
      have HJ := Lib.hid (join_any g n g n (cls n (l.take j)) d a b _ HO1'.out HR.out ha1 hb1 (by omega))
      clear hin ha hb HCL
      go_wp2_with (go_at_call 28; refine HJ.out.mono ?_; rintro e w2 ⟨d2, rfl, ho2, hr2, hw2⟩; have HO3 := Lib.hid ho2; have HR3 := Lib.hid hr2; have HB3 := Lib.hid (hw2.bel g w (Nat.le_refl _) HB1'.out); clear ho2 hr2 hw2)
      go_roundw
      case rel => exact ⟨j + 1, d2, by omega, by go_num, HO3, Lib.hid (by rw [HCL2.out]; exact HR3.out), HB3⟩
      case measure => simp [intOf]; omega
     ·have HCL2 : Hid (cls n (l.take (j + 1)) = cls n (l.take j)) := Lib.hid (by rw [HCL.out]; simp [mrgP, hin])
      have HR2 : Hid (Rt n d (cls n (l.take (j + 1)))) := Lib.hid (by rw [HCL2.out]; exact HR.out)
      obtain ⟨pa, pb⟩ := p
      have hno : ¬ (0 ≤ pa ∧ pa < n ∧ 0 ≤ pb ∧ pb < n) := fun e => hin ((inR_iff n (pa, pb)).2 e)
      simp only at v0 v1 HO1' HB1' HW1
      clear hin HCL HCL2
      by_cases h1 : 0 ≤ pa
      ·by_cases h2 : pa < n
       ·by_cases h3 : 0 ≤ pb
        ·have h4 : ¬ pb < n := fun e => hno ⟨h1, h2, h3, e⟩
         clear hno
         go_wp2_with fail
         go_roundw
         case rel => exact ⟨j + 1, d, by omega, by go_num, HO1', HR2, HB1'⟩
         case measure => simp [intOf]; omega
        ·clear hno
         go_wp2_with fail
         go_roundw
         case rel => exact ⟨j + 1, d, by omega, by go_num, HO1', HR2, HB1'⟩
         case measure => simp [intOf]; omega
       ·clear hno
        go_wp2_with fail
        go_roundw
        case rel => exact ⟨j + 1, d, by omega, by go_num, HO1', HR2, HB1'⟩
        case measure => simp [intOf]; omega
      ·clear hno
       go_wp2_with fail
       go_roundw
       case rel => exact ⟨j + 1, d, by omega, by go_num, HO1', HR2, HB1'⟩
       case measure => simp [intOf]; omega
    ·have hjm : j = m := by omega
     have HR2 : Hid (Rt n d (cls n l)) := Lib.hid (by have := HR.out; rwa [hjm, HML.out, List.take_length] at this)
     clear hjm HR
     go_wp2_with fail
     obtain ⟨wp, hwp⟩ : ∃ wp : World, wp = wr := ⟨_, rfl⟩
     subst hwp
     go_loopw [61] (fun i wi => ∃ (k : Nat) (d : Nat → Nat), k ≤ n ∧ i = .int .i64 k ∧ Hid (OwnI wi g (.slice (some ⟨g, 0, none⟩) n n) (rowF n d)) ∧ Hid (Rt n d (cls n l)) ∧ Hid (Flat k d (cls n l)) ∧ Hid (Below g w wi)) (fun i _ => n - (intOf i).toNat)
     case atStart => exact ⟨0, d, by omega, rfl, HO, HR2, Lib.hid (fun x hx => by omega), HB⟩
     case round =>
      obtain ⟨k2, d2, hk2, rfl, HO4, HR4, HF4, HB4⟩ := hrel
      clear HO HR2 HB
      by_cases hlt3 : k2 < n
      ·have t1 : (0 : Int) ≤ (k2 : Int) := by omega
       have t2 : (k2 : Int) < (n : Int) := by omega
       have HL := Lib.hid (least_any g n g n (cls n l) d2 k2 _ HO4.out HR4.out hlt3 (by omega))
       go_wp2_with (go_at_call 29; refine HL.out.mono ?_; rintro e w2 ⟨d3, rfl, ho2, hr2, hf2, hw2⟩; have fz := ho2.frozen; have c0 : w2.cell? ⟨g, k2, none⟩ = some (.int .i64 (d3 k2 : Nat)) := ho2.cell k2 _ (rowF_get n d3 k2 hlt3); have HO5 := Lib.hid (ho2.put k2 ((cls n l k2 : Nat) : Int)); have HR5 := Lib.hid hr2; have HF5 := Lib.hid (hf2 _ HF4.out); have HB5 := Lib.hid ((hw2.bel g w (Nat.le_refl _) HB4.out).setCell (p := ⟨g, k2, none⟩) (Nat.le_refl _) (.int .i64 ((cls n l k2 : Nat) : Int))); clear ho2 hr2 hf2 hw2)
       go_roundw
       case rel =>
        refine ⟨k2 + 1, updF d3 k2 (cls n l k2), by omega, by go_num, Lib.hid (by rw [← rowF_set]; exact HO5.out), Lib.hid ?_, Lib.hid ?_, HB5⟩
        ·intro x hx
         by_cases hxk : x = k2
         ·subst hxk
          obtain ⟨a1, a2, a3⟩ := HR5.out.root x hx
          simp only [updF, if_true]
          rw [a3]
          by_cases e : cls n l x = x
          ·left; exact ⟨e, e⟩
          ·right; exact ⟨by omega, rfl⟩
         ·simp only [updF, if_neg hxk]; exact HR5.out x hx
        ·intro x hx
         by_cases hxk : x = k2
         ·subst hxk; simp [updF]
         ·simp only [updF, if_neg hxk]; exact HF5.out x (by omega)
       case measure => simp [intOf]; omega
      ·have HFIN : Hid (OwnI wr w.heap.size (.slice (some ⟨g, 0, none⟩) n n) (rowF n (cls n l))) := Lib.hid (by
        have := HO4.out
        rw [rowF_congr (e := cls n l) (fun x hx => HF4.out x (by omega))] at this
        rw [← HG.out]; exact this)
       go_wp2_with fail
       go_ret
       exact ⟨_, rfl, HFIN.out, by rw [← HG.out]; exact HB4.out⟩
end Go.Proofs.Ytagkpcnedccaiaa
