/-
  swapRange: two stretches of a row of edits change places; rotate: two neighbouring parts do.
-/
import Derived.Test.YtficgilapbmmpaaArr
namespace Go.Proofs.Ytficgilapbmmpaa
open Go.RowKit
set_option linter.unusedVariables false

/-- What a sorting function leaves. -/
def SortPost (w : World) (g : Nat) (d : List Ed) (e : Ending) (w' : World) : Prop := e = .returned (.tuple #[]) ∧ Arr w' g d ∧ w.grownBy w' (some g)

set_option maxHeartbeats 1000000 in
theorem swap_any (w : World) (g : Nat) (a b c n cap : Nat) (P X Y Z Q : List Ed) (h : Arr w g (P ++ (X ++ (Y ++ (Z ++ Q))))) (hn : n = (P ++ (X ++ (Y ++ (Z ++ Q)))).length) (hcap : n ≤ cap) (hm : n ≤ 60) (ha : a = P.length) (hX : X.length = c) (hZ : Z.length = c) (hb : b = P.length + X.length + Y.length) :
    Calls Try.prog 52 #[.slice (some ⟨g, 0, none⟩) n cap, .int .i64 a, .int .i64 b, .int .i64 c, .func (Fn.func 33) #[] #[]] w fun e w' => SortPost w g (P ++ (Z ++ (Y ++ (X ++ Q)))) e w' := by
  have hlen : n = a + c + Y.length + c + Q.length := by rw [hn, ha]; simp; omega
  have hb2 : b = a + c + Y.length := by omega
  have HA := Lib.hid ha
  have HX := Lib.hid hX
  have HZ := Lib.hid hZ
  have HA0 := Lib.hid h
  clear hn ha hX hZ hb h
  generalize hy : Y.length = yl at *
  have HY := Lib.hid hy
  clear hy
  subst hb2
  go_enter Try.func52, Try.ntmps52
  go_wp2_with fail
  go_loopw [10] (fun i wr => ∃ k : Nat, k ≤ c ∧ i = .int .i64 k ∧ Arr wr g (P ++ ((Z.take k ++ X.drop k) ++ (Y ++ ((X.take k ++ Z.drop k) ++ Q)))) ∧ w.grownBy wr (some g)) (fun i _ => c - (intOf i).toNat)
  case atStart => exact ⟨0, by omega, rfl, by simpa using HA0.out, grown_same _ _⟩
  case round =>
    obtain ⟨k, hk, rfl, harr, hgr⟩ := hrel
    have HGR := Lib.hid hgr
    have HARR := Lib.hid harr
    clear hgr harr
    by_cases hlt : k < c
    · obtain ⟨x, hx⟩ : ∃ x, X.drop k = x :: X.drop (k + 1) := ⟨X[k]'(by rw [HX.out]; exact hlt), List.drop_eq_getElem_cons (by rw [HX.out]; exact hlt)⟩
      obtain ⟨z, hz⟩ : ∃ z, Z.drop k = z :: Z.drop (k + 1) := ⟨Z[k]'(by rw [HZ.out]; exact hlt), List.drop_eq_getElem_cons (by rw [HZ.out]; exact hlt)⟩
      have hX' := HX.out
      have hZ' := HZ.out
      have tx : X.take (k + 1) = X.take k ++ [x] := by
        rw [List.take_succ_eq_append_getElem (by omega)]
        congr 2
        have := List.drop_eq_getElem_cons (l := X) (i := k) (by omega)
        rw [hx] at this
        simp only [List.cons.injEq] at this
        exact this.1.symm
      have tz : Z.take (k + 1) = Z.take k ++ [z] := by
        rw [List.take_succ_eq_append_getElem (by omega)]
        congr 2
        have := List.drop_eq_getElem_cons (l := Z) (i := k) (by omega)
        rw [hz] at this
        simp only [List.cons.injEq] at this
        exact this.1.symm
      have ltx : (X.take k).length = k := by simp; omega
      have ltz : (Z.take k).length = k := by simp; omega
      have ldx : (X.drop (k + 1)).length = c - (k + 1) := by simp; omega
      have hA := HARR.out
      rw [hx, hz] at hA
      have eq1 : P ++ ((Z.take k ++ x :: X.drop (k + 1)) ++ (Y ++ ((X.take k ++ z :: Z.drop (k + 1)) ++ Q))) = (P ++ Z.take k) ++ x :: (X.drop (k + 1) ++ (Y ++ ((X.take k ++ z :: Z.drop (k + 1)) ++ Q))) := by simp
      have eq2 : P ++ ((Z.take k ++ x :: X.drop (k + 1)) ++ (Y ++ ((X.take k ++ z :: Z.drop (k + 1)) ++ Q))) = (P ++ (Z.take k ++ (x :: (X.drop (k + 1) ++ (Y ++ X.take k))))) ++ z :: (Z.drop (k + 1) ++ Q) := by simp
      have l1 : (P ++ Z.take k).length = a + k := by rw [List.length_append, ← HA.out, ltz]
      have l2 : (P ++ (Z.take k ++ (x :: (X.drop (k + 1) ++ (Y ++ X.take k))))).length = a + c + yl + k := by
        simp only [List.length_append, List.length_cons, ltz, ltx, ldx, HY.out, ← HA.out]; omega
      have ax := hA.at (a + k) x (by rw [eq1]; exact get_at _ _ _ _ l1)
      have az := hA.at (a + c + yl + k) z (by rw [eq2]; exact get_at _ _ _ _ l2)
      obtain ⟨e0, e1, e2⟩ := ax
      obtain ⟨f0, f1, f2⟩ := az
      have z0 := hA.frozen ((a + k) * 3)
      have z1 := hA.frozen ((a + k) * 3 + 1)
      have z2 := hA.frozen ((a + k) * 3 + 2)
      have y0 := hA.frozen ((a + c + yl + k) * 3)
      have y1 := hA.frozen ((a + c + yl + k) * 3 + 1)
      have y2 := hA.frozen ((a + c + yl + k) * 3 + 2)
      have hne : ¬ (a + k) * 3 = (a + c + yl + k) * 3 := by omega
      have la : a + k < n := by omega
      have lb : a + c + yl + k < n := by omega
      -- what the two stores make
      have hput := (hA.put (a + k) (by rw [eq1]; simp only [List.length_append, List.length_cons] at l1 ⊢; omega) z).put (a + c + yl + k) (by rw [List.length_set, eq2]; simp only [List.length_append, List.length_cons] at l2 ⊢; omega) x
      have hset : ((P ++ ((Z.take k ++ x :: X.drop (k + 1)) ++ (Y ++ ((X.take k ++ z :: Z.drop (k + 1)) ++ Q)))).set (a + k) z).set (a + c + yl + k) x = P ++ ((Z.take (k + 1) ++ X.drop (k + 1)) ++ (Y ++ ((X.take (k + 1) ++ Z.drop (k + 1)) ++ Q))) := by
        rw [eq1, set_at' z x _ _ _ l1]
        have eq3 : (P ++ Z.take k) ++ z :: (X.drop (k + 1) ++ (Y ++ ((X.take k ++ z :: Z.drop (k + 1)) ++ Q))) = (P ++ (Z.take k ++ (z :: (X.drop (k + 1) ++ (Y ++ X.take k))))) ++ z :: (Z.drop (k + 1) ++ Q) := by simp
        have l3 : (P ++ (Z.take k ++ (z :: (X.drop (k + 1) ++ (Y ++ X.take k))))).length = a + c + yl + k := by
          simp only [List.length_append, List.length_cons] at l2 ⊢; omega
        rw [eq3, set_at' x z _ _ _ l3, tx, tz]
        simp
      rw [hset] at hput
      simp only [put3] at hput
      have HPUT := Lib.hid hput
      have hgp := grown_trans (HGR.out) (grown_trans (grown_put wr g (a + k) z) (grown_put _ g (a + c + yl + k) x))
      simp only [put3] at hgp
      have HGP := Lib.hid hgp
      have wa1 : IntKind.i64.wrap ((a : Int) + k) = ((a + k : Nat) : Int) := by rw [IntWalk.i64_in _ (by omega)]; omega
      have wb1 : IntKind.i64.wrap (((a + c + yl : Nat) : Int) + k) = ((a + c + yl + k : Nat) : Int) := by rw [IntWalk.i64_in _ (by omega)]; omega
      clear hx hz tx tz ltx ltz ldx hA eq1 eq2 l1 l2 hput hset hgp hX' hZ' hlen
      generalize a + c + yl = bb at *
      go_wp2_with fail
      go_region
      go_wp2_with fail
      go_roundw
      case rel => exact ⟨k + 1, by omega, by go_num, HPUT.out.drew, grown_trans HGP.out (grown_below ((Below.refl _ _).drew) _)⟩
      case measure => simp [intOf]; omega
    · have hkc : k = c := by omega
      have hA := HARR.out
      rw [hkc, List.take_of_length_le (by rw [HZ.out]; exact Nat.le_refl _), List.drop_of_length_le (by rw [HX.out]; exact Nat.le_refl _), List.take_of_length_le (by rw [HX.out]; exact Nat.le_refl _), List.drop_of_length_le (by rw [HZ.out]; exact Nat.le_refl _), List.append_nil, List.append_nil] at hA
      have HFIN := Lib.hid hA
      clear hA
      go_wp2_with fail
      go_end0
      exact ⟨rfl, HFIN.out, HGR.out⟩
end Go.Proofs.Ytficgilapbmmpaa
