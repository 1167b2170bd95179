/-
  symMerge where the second part is one edit.
-/
import Derived.Test.YtficgilapbmmpaaSymA
namespace Go.Proofs.Ytficgilapbmmpaa
open Go.RowKit
set_option linter.unusedVariables false

/-- One edit on its way down, past the last ones ahead of it. -/
structure Sinking (w wr : World) (g : Nat) (P : List Ed) (x : Ed) (A1 A2 Q : List Ed) (k : Nat) (C D : List Ed) : Prop where
  arr : Arr wr g (P ++ (A1 ++ (C ++ (x :: (D ++ Q)))))
  eq : A2 = C ++ D
  lk : P.length + A1.length + C.length = k
  grown : w.grownBy wr (some g)
theorem Sinking.down {w wr w' : World} {g : Nat} {P : List Ed} {x : Ed} {A1 A2 Q : List Ed} {k : Nat} {C : List Ed} {y : Ed} {D : List Ed} (h : Sinking w wr g P x A1 A2 Q (k + 1) (C ++ [y]) D) (ha : Arr w' g (P ++ (A1 ++ (C ++ (x :: (y :: D ++ Q)))))) (hg : wr.grownBy w' (some g)) : Sinking w w' g P x A1 A2 Q k C (y :: D) :=
  ⟨ha, by rw [h.eq]; simp, by have := h.lk; simp at this; omega, grown_trans h.grown hg⟩

set_option maxRecDepth 100000 in
set_option maxHeartbeats 4000000 in
theorem sym_last (w : World) (g a m b n cap : Nat) (P : List Ed) (x : Ed) (A Q : List Ed) (h : Arr w g (P ++ (A ++ (x :: Q)))) (hn : n = (P ++ (A ++ (x :: Q))).length) (hcap : n ≤ cap) (hm : n ≤ 60) (ha : a = P.length) (hmm : m = P.length + A.length) (hb : b = P.length + A.length + 1) (hA : InOrder A) (hA1 : A.length ≠ 1) :
    Calls Try.prog 49 #[.slice (some ⟨g, 0, none⟩) n cap, .int .i64 a, .int .i64 m, .int .i64 b, .func (Fn.func 33) #[] #[]] w fun e w' => SortPost w g (P ++ (ssort (A ++ [x]) ++ Q)) e w' := by
  have hlen : n = P.length + A.length + 1 + Q.length := by rw [hn]; simp; omega
  have H0 : Halving w w g (P ++ (A ++ (x :: Q))) (fun y => ¬ ltE x y) A a a m [] A [] := ⟨h, by have := Bin.start (p := fun y => ¬ ltE x y) a hA (fun y z h1 h2 => nlt_trans h1 h2); rw [show m = a + A.length by omega]; exact this, grown_same _ _⟩
  have HH := Lib.hid H0
  have hma : ¬ (m : Int) - a = 1 := by omega
  have hma2 : ((m : Int) - a == 1) = false := by rw [beq_eq_false_iff_ne]; exact hma
  have hbm : (b : Int) - m = 1 := by omega
  have hmn : m < n := by omega
  have ham : a ≤ m := by omega
  have HA := Lib.hid ha
  have HM := Lib.hid hmm
  clear hn ha hb hmm H0 h hA hlen hA1
  go_enter Try.func49, Try.ntmps49
  go_wp2_with fail
  go_loopw [14, 15] (fun u v wr => ∃ (i j : Nat) (B1 Bm B2 : List Ed), u = .int .i64 i ∧ v = .int .i64 j ∧ a ≤ i ∧ i ≤ j ∧ j ≤ m ∧ Halving w wr g (P ++ (A ++ (x :: Q))) (fun y => ¬ ltE x y) A a i j B1 Bm B2) (fun u v _ => (intOf v).toNat - (intOf u).toNat)
  case atStart => exact ⟨a, m, _, _, _, rfl, rfl, by omega, by omega, by omega, HH.out⟩
  case round =>
    obtain ⟨i, j, B1, Bm, B2, rfl, rfl, hmi, hij, hjb, K⟩ := hrel
    clear HH
    have KH := Lib.hid K
    by_cases hlt : i < j
    · obtain ⟨C, z, D, rfl, hC⟩ := K.bin.half hlt
      obtain ⟨c, hc⟩ : ∃ c, c = (i + j) / 2 := ⟨_, rfl⟩
      rw [← hc] at hC
      have hc1 : i ≤ c := by omega
      have hc2 : c < j := by omega
      have hcc : ((i : Int) + j) / 2 = ((c : Nat) : Int) := by omega
      have lc : P.length + (B1.length + C.length) = c := by have := K.bin.l1; have := HA.out; omega
      have hB2 : A = B1 ++ (C ++ z :: (D ++ B2)) := by rw [K.bin.eq]; simp
      obtain ⟨e0, e1, e2⟩ := K.arr.at m x (by rw [← List.append_assoc]; exact get_at _ _ _ _ (by rw [HM.out]; simp))
      obtain ⟨f0, f1, f2⟩ := K.arr.at c z (by
        rw [show P ++ (A ++ (x :: Q)) = (P ++ (B1 ++ C)) ++ z :: (D ++ B2 ++ (x :: Q)) by rw [hB2]; simp]
        exact get_at _ _ _ _ (by simp; omega))
      have hcn : c < n := by omega
      have hgl : g < wr.heap.size := K.arr.lt
      have HC := Lib.hid hC
      clear hC hc K lc hB2
      by_cases hl : ltE x z
      · have hd : decide (cmpE x z < 0) = true := decide_eq_true ((cmpE_lt x z).2 hl)
        go_wp2_with fail
        go_region_held3 (fun w' => w'.cell? ⟨g, m * 3, none⟩ = some (.int .i64 x.a) ∧ w'.cell? ⟨g, m * 3 + 1, none⟩ = some (.int .i64 x.e) ∧ w'.cell? ⟨g, m * 3 + 2, none⟩ = some (.string x.t) ∧ w'.cell? ⟨g, c * 3, none⟩ = some (.int .i64 z.a) ∧ w'.cell? ⟨g, c * 3 + 1, none⟩ = some (.int .i64 z.e) ∧ w'.cell? ⟨g, c * 3 + 2, none⟩ = some (.string z.t))
          (first
            | go_keep
            | (go_split_ands
               refine ⟨?_, ?_, ?_, ?_, ?_, ?_⟩ <;> (rw [hbp.cell (by simpa using hgl)]; assumption)))
          ((first
            | (go_at_call 33; refine (comes_any x z _).mono ?_; rintro e wp ⟨rfl, hbp⟩)))
        rename_i hS
        have HN : Hid (Halving w wp g (P ++ (A ++ (x :: Q))) (fun y => ¬ ltE x y) A a i c B1 C (z :: (D ++ B2))) := Lib.hid ⟨KH.out.arr.step (((Below.refl _ _).drew).trans hbp), KH.out.bin.down HC.out (fun h => h hl), grown_trans KH.out.grown (grown_below (((Below.refl _ _).drew).trans hbp) _)⟩
        clear hS hbp e0 e1 e2 f0 f1 f2 KH
        go_wp2_with fail
        go_roundw
        case rel => exact ⟨i, c, _, _, _, rfl, rfl, by omega, by omega, by omega, HN.out⟩
        case measure => simp [intOf]; omega
      · have hd : decide (cmpE x z < 0) = false := decide_eq_false (fun h => hl ((cmpE_lt x z).1 h))
        go_wp2_with fail
        go_region_held3 (fun w' => w'.cell? ⟨g, m * 3, none⟩ = some (.int .i64 x.a) ∧ w'.cell? ⟨g, m * 3 + 1, none⟩ = some (.int .i64 x.e) ∧ w'.cell? ⟨g, m * 3 + 2, none⟩ = some (.string x.t) ∧ w'.cell? ⟨g, c * 3, none⟩ = some (.int .i64 z.a) ∧ w'.cell? ⟨g, c * 3 + 1, none⟩ = some (.int .i64 z.e) ∧ w'.cell? ⟨g, c * 3 + 2, none⟩ = some (.string z.t))
          (first
            | go_keep
            | (go_split_ands
               refine ⟨?_, ?_, ?_, ?_, ?_, ?_⟩ <;> (rw [hbp.cell (by simpa using hgl)]; assumption)))
          ((first
            | (go_at_call 33; refine (comes_any x z _).mono ?_; rintro e wp ⟨rfl, hbp⟩)))
        rename_i hS
        have HN : Hid (Halving w wp g (P ++ (A ++ (x :: Q))) (fun y => ¬ ltE x y) A a (c + 1) j (B1 ++ (C ++ [z])) D B2) := Lib.hid ⟨KH.out.arr.step (((Below.refl _ _).drew).trans hbp), KH.out.bin.up HC.out hl, grown_trans KH.out.grown (grown_below (((Below.refl _ _).drew).trans hbp) _)⟩
        clear hS hbp e0 e1 e2 f0 f1 f2 KH
        go_wp2_with fail
        go_roundw
        case rel => exact ⟨c + 1, j, _, _, _, by go_num, rfl, by omega, by omega, hjb, HN.out⟩
        case measure => simp [intOf]; omega
    · obtain ⟨hBB, hl1⟩ := K.bin.fin (by omega)
      have hfin : ssort (A ++ [x]) = B1 ++ (x :: B2) := by
        rw [hBB]
        exact ssort_back (by rw [← hBB]; exact K.bin.ord) K.bin.lo (fun y hy => Decidable.not_not.1 (K.bin.hi y hy))
      have HFIN := Lib.hid hfin
      have hlB : A.length = B1.length + B2.length := by rw [hBB]; simp
      have hR : Sinking w wr g P x B1 B2 Q m B2 [] := ⟨by have := K.arr; rw [hBB] at this; simpa using this, by simp, by have := HM.out; omega, K.grown⟩
      have HR := Lib.hid hR
      have lB1 : P.length + B1.length = i := by have := HA.out; omega
      have HLB := Lib.hid lB1
      have him : i ≤ m := by omega
      clear hBB hl1 hfin hR lB1 K KH hlB
      go_wp2_with fail
      go_loopw [17] (fun u wr => ∃ (k : Nat) (C D : List Ed), u = .int .i64 k ∧ i ≤ k ∧ k ≤ m ∧ Sinking w wr g P x B1 B2 Q k C D) (fun u _ => (intOf u).toNat - i)
      case atStart => exact ⟨m, _, _, rfl, him, by omega, HR.out⟩
      case round =>
        obtain ⟨k, C, D, rfl, hak, hki, K⟩ := hrel
        clear HR
        by_cases hlt2 : i < k
        · obtain ⟨q, rfl⟩ : ∃ q, k = q + 1 := ⟨k - 1, by omega⟩
          obtain ⟨C', y, rfl⟩ : ∃ C' y, C = C' ++ [y] := by
            rcases List.eq_nil_or_concat C with rfl | ⟨C', y, h⟩
            · have h1 := K.lk
              have h3 := HLB.out
              simp at h1
              omega
            · exact ⟨C', y, by rw [h, List.concat_eq_append]⟩
          have l1 : (P ++ (B1 ++ C')).length = q := by have := K.lk; simp at this ⊢; omega
          have hk0 : Hid (q + 1 = q + 1) := Lib.hid rfl
          generalize hk : q + 1 = k at *
          have l2 : (P ++ (B1 ++ (C' ++ [y]))).length = k := by simp at l1 ⊢; omega
          have eq1 : P ++ (B1 ++ (C' ++ [y] ++ (x :: (D ++ Q)))) = (P ++ (B1 ++ C')) ++ y :: (x :: (D ++ Q)) := by simp
          have eq2 : P ++ (B1 ++ (C' ++ [y] ++ (x :: (D ++ Q)))) = (P ++ (B1 ++ (C' ++ [y]))) ++ x :: (D ++ Q) := by simp
          obtain ⟨e0, e1, e2⟩ := K.arr.at q y (by rw [eq1]; exact get_at _ _ _ _ l1)
          obtain ⟨f0, f1, f2⟩ := K.arr.at k x (by rw [eq2]; exact get_at _ _ _ _ l2)
          have z0 := K.arr.frozen (k * 3)
          have z1 := K.arr.frozen (k * 3 + 1)
          have z2 := K.arr.frozen (k * 3 + 2)
          have y0 := K.arr.frozen (q * 3)
          have y1 := K.arr.frozen (q * 3 + 1)
          have y2 := K.arr.frozen (q * 3 + 2)
          have hne : ¬ k * 3 = q * 3 := by omega
          have hne2 : ¬ q * 3 = k * 3 := by omega
          have hqn : q < n := by omega
          have hkn : k < n := by omega
          have hwq : IntKind.i64.wrap ((k : Int) - 1) = ((q : Nat) : Int) := by rw [IntWalk.i64_in _ (by omega)]; omega
          have hwq2 : (k : Int) - 1 = ((q : Nat) : Int) := by omega
          have hput := (K.arr.put k (by rw [eq2]; simp at l2 ⊢; omega) y).put q (by rw [List.length_set, eq1]; simp at l1 ⊢; omega) x
          have hset : ((P ++ (B1 ++ (C' ++ [y] ++ (x :: (D ++ Q))))).set k y).set q x = P ++ (B1 ++ (C' ++ (x :: (y :: D ++ Q)))) := by
            rw [eq2, set_at' y x _ _ _ l2]
            rw [show (P ++ (B1 ++ (C' ++ [y]))) ++ y :: (D ++ Q) = (P ++ (B1 ++ C')) ++ y :: (y :: (D ++ Q)) by simp, set_at' x y _ _ _ l1]
            simp
          rw [hset] at hput
          simp only [put3] at hput
          have hgp := grown_trans (grown_put wr g k y) (grown_put _ g q x)
          simp only [put3] at hgp
          rw [← hk] at K
          have HNEXT := Lib.hid (K.down hput.drew (grown_trans hgp (grown_below ((Below.refl _ _).drew) _)))
          have HK := Lib.hid hk
          have hiq : i ≤ q := by omega
          have hqm : q ≤ m := by omega
          clear l1 l2 eq1 eq2 hput hset hgp K hk hk0
          go_wp2_with fail
          go_region
          go_wp2_with fail
          go_roundw
          case rel => exact ⟨q, _, _, by first | rfl | go_num, hiq, hqm, HNEXT.out⟩
          case measure => simp [intOf]; have := HK.out; omega
        · have hC : C = [] := by
            have h1 := K.lk
            have h3 := HLB.out
            exact List.eq_nil_of_length_eq_zero (by omega)
          subst hC
          have hA1 : Arr wr g (P ++ (ssort (A ++ [x]) ++ Q)) := by
            rw [HFIN.out]
            have h1 := K.arr
            have h2 := K.eq
            rw [List.nil_append] at h2
            rw [h2]
            simpa using h1
          have HA1 := Lib.hid hA1
          have HG := Lib.hid K.grown
          clear hA1 K
          go_wp2_with fail
          go_end0
          exact ⟨rfl, HA1.out, HG.out⟩
end Go.Proofs.Ytficgilapbmmpaa
