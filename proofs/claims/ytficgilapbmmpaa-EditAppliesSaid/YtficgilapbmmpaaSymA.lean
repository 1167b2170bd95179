/-
  symMerge where the first part is one edit.
-/
import Derived.Test.YtficgilapbmmpaaBin
namespace Go.Proofs.Ytficgilapbmmpaa
open Go.RowKit
set_option linter.unusedVariables false

/-- What a halving's round begins with. -/
structure Halving (w wr : World) (g : Nat) (d : List Ed) (p : Ed → Prop) (B : List Ed) (m i j : Nat) (B1 Bm B2 : List Ed) : Prop where
  arr : Arr wr g d
  bin : Bin p B m i j B1 Bm B2
  grown : w.grownBy wr (some g)
/-- One edit on its way up, past the first ones behind it. -/
structure Rising (w wr : World) (g : Nat) (P : List Ed) (x : Ed) (B1 B2 Q : List Ed) (a k : Nat) (C D : List Ed) : Prop where
  arr : Arr wr g (P ++ (C ++ (x :: (D ++ (B2 ++ Q)))))
  eq : B1 = C ++ D
  lk : a + C.length = k
  lP : P.length = a
  grown : w.grownBy wr (some g)
theorem Rising.up {w wr w' : World} {g : Nat} {P : List Ed} {x : Ed} {B1 B2 Q : List Ed} {a k : Nat} {C : List Ed} {y : Ed} {D : List Ed} (h : Rising w wr g P x B1 B2 Q a k C (y :: D)) (ha : Arr w' g (P ++ (C ++ (y :: (x :: (D ++ (B2 ++ Q))))))) (hg : wr.grownBy w' (some g)) : Rising w w' g P x B1 B2 Q a (k + 1) (C ++ [y]) D :=
  ⟨by simpa using ha, by rw [h.eq]; simp, by have := h.lk; simp; omega, h.lP, grown_trans h.grown hg⟩

set_option maxRecDepth 100000 in
set_option maxHeartbeats 4000000 in
theorem sym_first (w : World) (g a m b n cap : Nat) (P : List Ed) (x : Ed) (B Q : List Ed) (h : Arr w g (P ++ (x :: (B ++ Q)))) (hn : n = (P ++ (x :: (B ++ Q))).length) (hcap : n ≤ cap) (hm : n ≤ 60) (ha : a = P.length) (hmm : m = P.length + 1) (hb : b = P.length + 1 + B.length) (hB : InOrder B) :
    Calls Try.prog 49 #[.slice (some ⟨g, 0, none⟩) n cap, .int .i64 a, .int .i64 m, .int .i64 b, .func (Fn.func 33) #[] #[]] w fun e w' => SortPost w g (P ++ (ssort (x :: B) ++ Q)) e w' := by
  have hlen : n = P.length + 1 + B.length + Q.length := by rw [hn]; simp; omega
  have H0 : Halving w w g (P ++ (x :: (B ++ Q))) (fun y => ltE y x) B m m b [] B [] := ⟨h, by have := Bin.start (p := fun y => ltE y x) m hB (fun y z h1 h2 => lt_of_nlt_lt h1 h2); rw [show b = m + B.length by omega]; exact this, grown_same _ _⟩
  have HH := Lib.hid H0
  have hma : (m : Int) - a = 1 := by omega
  have hbn : b ≤ n := by omega
  have hmb : m ≤ b := by omega
  have ham : a + 1 = m := by omega
  have HA := Lib.hid ha
  have HB := Lib.hid hb
  have HM := Lib.hid hmm
  clear hn ha hb hmm H0 h hB hlen
  go_enter Try.func49, Try.ntmps49
  go_wp2_with fail
  go_loopw [10, 11] (fun u v wr => ∃ (i j : Nat) (B1 Bm B2 : List Ed), u = .int .i64 i ∧ v = .int .i64 j ∧ m ≤ i ∧ i ≤ j ∧ j ≤ b ∧ Halving w wr g (P ++ (x :: (B ++ Q))) (fun y => ltE y x) B m i j B1 Bm B2) (fun u v _ => (intOf v).toNat - (intOf u).toNat)
  case atStart => exact ⟨m, b, _, _, _, rfl, rfl, by omega, by omega, by omega, HH.out⟩
  case round =>
    obtain ⟨i, j, B1, Bm, B2, rfl, rfl, hmi, hij, hjb, K⟩ := hrel
    clear HH
    have KH := Lib.hid K
    by_cases hlt : i < j
    · obtain ⟨C, z, D, rfl, hC⟩ := K.bin.half hlt
      obtain ⟨c, hc⟩ : ∃ c, c = (i + j) / 2 := ⟨_, rfl⟩
      rw [← hc] at hC
      have hc1 : i ≤ c := by omega
      have hc2 : c < j := by omega
      have hcc : ((i : Int) + j) / 2 = ((c : Nat) : Int) := by omega
      have lc : P.length + 1 + (B1.length + C.length) = c := by have := K.bin.l1; have := HM.out; omega
      have hB2 : B = B1 ++ (C ++ z :: (D ++ B2)) := by rw [K.bin.eq]; simp
      obtain ⟨e0, e1, e2⟩ := K.arr.at a x (get_at _ _ _ _ (HA.out.symm))
      obtain ⟨f0, f1, f2⟩ := K.arr.at c z (by
        rw [show P ++ (x :: (B ++ Q)) = (P ++ (x :: (B1 ++ C))) ++ z :: (D ++ B2 ++ Q) by rw [hB2]; simp]
        exact get_at _ _ _ _ (by simp; omega))
      have hcn : c < n := by omega
      have han : a < n := by omega
      have hgl : g < wr.heap.size := K.arr.lt
      have HC := Lib.hid hC
      clear hC hc K lc hB2
      by_cases hl : ltE z x
      · have hd : decide (cmpE z x < 0) = true := decide_eq_true ((cmpE_lt z x).2 hl)
        go_wp2_with fail
        go_region_held3 (fun w' => w'.cell? ⟨g, a * 3, none⟩ = some (.int .i64 x.a) ∧ w'.cell? ⟨g, a * 3 + 1, none⟩ = some (.int .i64 x.e) ∧ w'.cell? ⟨g, a * 3 + 2, none⟩ = some (.string x.t) ∧ w'.cell? ⟨g, c * 3, none⟩ = some (.int .i64 z.a) ∧ w'.cell? ⟨g, c * 3 + 1, none⟩ = some (.int .i64 z.e) ∧ w'.cell? ⟨g, c * 3 + 2, none⟩ = some (.string z.t))
          (first
            | go_keep
            | (go_split_ands
               refine ⟨?_, ?_, ?_, ?_, ?_, ?_⟩ <;> (rw [hbp.cell (by simpa using hgl)]; assumption)))
          ((first
            | (go_at_call 33; refine (comes_any z x _).mono ?_; rintro e wp ⟨rfl, hbp⟩)))
        rename_i hS
        have HN : Hid (Halving w wp g (P ++ (x :: (B ++ Q))) (fun y => ltE y x) B m (c + 1) j (B1 ++ (C ++ [z])) D B2) := Lib.hid ⟨KH.out.arr.step (((Below.refl _ _).drew).trans hbp), KH.out.bin.up HC.out hl, grown_trans KH.out.grown (grown_below (((Below.refl _ _).drew).trans hbp) _)⟩
        clear hS hbp e0 e1 e2 f0 f1 f2 KH
        go_wp2_with fail
        go_roundw
        case rel => exact ⟨c + 1, j, _, _, _, by go_num, rfl, by omega, by omega, hjb, HN.out⟩
        case measure => simp [intOf]; omega
      · have hd : decide (cmpE z x < 0) = false := decide_eq_false (fun h => hl ((cmpE_lt z x).1 h))
        go_wp2_with fail
        go_region_held3 (fun w' => w'.cell? ⟨g, a * 3, none⟩ = some (.int .i64 x.a) ∧ w'.cell? ⟨g, a * 3 + 1, none⟩ = some (.int .i64 x.e) ∧ w'.cell? ⟨g, a * 3 + 2, none⟩ = some (.string x.t) ∧ w'.cell? ⟨g, c * 3, none⟩ = some (.int .i64 z.a) ∧ w'.cell? ⟨g, c * 3 + 1, none⟩ = some (.int .i64 z.e) ∧ w'.cell? ⟨g, c * 3 + 2, none⟩ = some (.string z.t))
          (first
            | go_keep
            | (go_split_ands
               refine ⟨?_, ?_, ?_, ?_, ?_, ?_⟩ <;> (rw [hbp.cell (by simpa using hgl)]; assumption)))
          ((first
            | (go_at_call 33; refine (comes_any z x _).mono ?_; rintro e wp ⟨rfl, hbp⟩)))
        rename_i hS
        have HN : Hid (Halving w wp g (P ++ (x :: (B ++ Q))) (fun y => ltE y x) B m i c B1 C (z :: (D ++ B2))) := Lib.hid ⟨KH.out.arr.step (((Below.refl _ _).drew).trans hbp), KH.out.bin.down HC.out hl, grown_trans KH.out.grown (grown_below (((Below.refl _ _).drew).trans hbp) _)⟩
        clear hS hbp e0 e1 e2 f0 f1 f2 KH
        go_wp2_with fail
        go_roundw
        case rel => exact ⟨i, c, _, _, _, rfl, rfl, by omega, by omega, by omega, HN.out⟩
        case measure => simp [intOf]; omega
    · obtain ⟨hBB, hl1⟩ := K.bin.fin (by omega)
      have hfin : ssort (x :: B) = B1 ++ (x :: B2) := by
        rw [hBB]
        exact ssort_front (by rw [← hBB]; exact K.bin.ord) K.bin.lo K.bin.hi
      have HFIN := Lib.hid hfin
      have hR : Rising w wr g P x B1 B2 Q a a [] B1 := ⟨by have := K.arr; rw [hBB] at this; simpa using this, rfl, by simp, HA.out.symm, K.grown⟩
      have HR := Lib.hid hR
      have lB1 : B1.length = i - m := by omega
      have HLB := Lib.hid lB1
      have him : (i : Int) - 1 = ((i - 1 : Nat) : Int) := by omega
      have hai : a ≤ i - 1 := by omega
      have hib : i ≤ b := by omega
      clear hBB hl1 hfin hR lB1 K KH
      generalize hi1 : i - 1 = i1 at *
      have HI1 := Lib.hid hi1
      clear hi1
      go_wp2_with fail
      go_loopw [13] (fun u wr => ∃ (k : Nat) (C D : List Ed), u = .int .i64 k ∧ a ≤ k ∧ k ≤ i1 ∧ Rising w wr g P x B1 B2 Q a k C D) (fun u _ => i1 - (intOf u).toNat)
      case atStart => exact ⟨a, _, _, rfl, by omega, hai, HR.out⟩
      case round =>
        obtain ⟨k, C, D, rfl, hak, hki, K⟩ := hrel
        clear HR
        have KH := Lib.hid K
        by_cases hlt2 : k < i1
        · obtain ⟨y, D', rfl⟩ : ∃ y D', D = y :: D' := by
            cases D with
            | nil =>
              have h1 := K.lk
              have h2 := congrArg List.length K.eq
              have h3 := HLB.out
              have h4 := HI1.out
              simp at h2
              omega
            | cons y D' => exact ⟨y, D', rfl⟩
          obtain ⟨q, hq⟩ : ∃ q, q = k + 1 := ⟨_, rfl⟩
          have l1 : (P ++ C).length = k := by have := K.lk; have := K.lP; simp; omega
          have l2 : (P ++ (C ++ [x])).length = q := by simp at l1 ⊢; omega
          have l3 : (P ++ (C ++ [y])).length = q := by simp at l1 ⊢; omega
          have eq1 : P ++ (C ++ (x :: (y :: D' ++ (B2 ++ Q)))) = (P ++ C) ++ x :: (y :: D' ++ (B2 ++ Q)) := by simp
          have eq2 : P ++ (C ++ (x :: (y :: D' ++ (B2 ++ Q)))) = (P ++ (C ++ [x])) ++ y :: (D' ++ (B2 ++ Q)) := by simp
          obtain ⟨e0, e1, e2⟩ := K.arr.at k x (by rw [eq1]; exact get_at _ _ _ _ l1)
          obtain ⟨f0, f1, f2⟩ := K.arr.at q y (by rw [eq2]; exact get_at _ _ _ _ l2)
          have z0 := K.arr.frozen (k * 3)
          have z1 := K.arr.frozen (k * 3 + 1)
          have z2 := K.arr.frozen (k * 3 + 2)
          have y0 := K.arr.frozen (q * 3)
          have y1 := K.arr.frozen (q * 3 + 1)
          have y2 := K.arr.frozen (q * 3 + 2)
          have hne : ¬ k * 3 = q * 3 := by omega
          have hne2 : ¬ q * 3 = k * 3 := by omega
          have hqn : q < n := by omega
          have hkn : k < n := by omega
          have hwq : IntKind.i64.wrap ((k : Int) + 1) = ((q : Nat) : Int) := by rw [IntWalk.i64_in _ (by omega)]; omega
          have hwq2 : (k : Int) + 1 = ((q : Nat) : Int) := by omega
          have hput := (K.arr.put k (by rw [eq1]; simp at l1 ⊢; omega) y).put q (by rw [List.length_set, eq2]; simp at l2 ⊢; omega) x
          have hset : ((P ++ (C ++ (x :: (y :: D' ++ (B2 ++ Q))))).set k y).set q x = P ++ (C ++ (y :: (x :: (D' ++ (B2 ++ Q))))) := by
            rw [eq1, set_at' y x _ _ _ l1]
            rw [show (P ++ C) ++ y :: (y :: D' ++ (B2 ++ Q)) = (P ++ (C ++ [y])) ++ y :: (D' ++ (B2 ++ Q)) by simp, set_at' x y _ _ _ l3]
            simp
          rw [hset] at hput
          simp only [put3] at hput
          have hgp := grown_trans (grown_put wr g k y) (grown_put _ g q x)
          simp only [put3] at hgp
          have HNEXT := Lib.hid (K.up hput.drew (grown_trans hgp (grown_below ((Below.refl _ _).drew) _)))
          have HQ := Lib.hid hq
          have hkq : a ≤ q := by omega
          have hqi : q ≤ i1 := by omega
          clear l1 l2 l3 eq1 eq2 hput hset hgp K KH hq
          go_wp2_with fail
          go_region
          go_wp2_with fail
          go_roundw
          case rel => exact ⟨q, _, _, by first | rfl | go_num, hkq, hqi, by have := HNEXT.out; rw [← HQ.out] at this; exact this⟩
          case measure => simp [intOf]; have := HQ.out; omega
        · have hD : D = [] := by
            have h1 := K.lk
            have h2 := congrArg List.length K.eq
            have h3 := HLB.out
            have h4 := HI1.out
            simp only [List.length_append] at h2
            exact List.eq_nil_of_length_eq_zero (by omega)
          subst hD
          have hA1 : Arr wr g (P ++ (ssort (x :: B) ++ Q)) := by
            rw [HFIN.out]
            have h1 := K.arr
            have h2 := K.eq
            rw [List.append_nil] at h2
            rw [h2]
            simpa using h1
          have HA1 := Lib.hid hA1
          have HG := Lib.hid K.grown
          clear hA1 K KH
          go_wp2_with fail
          go_end0
          exact ⟨rfl, HA1.out, HG.out⟩
end Go.Proofs.Ytficgilapbmmpaa
