/-
  insertionSort: a stretch of a row of edits is put in order, those that are alike in their order.
-/
import Derived.Test.YtficgilapbmmpaaRotate
import Derived.Lib.QuietBelow
import Derived.BigQuiet
namespace Go.Proofs.Ytficgilapbmmpaa
open Go.RowKit
open Go.Sort (grow)
set_option linter.unusedVariables false

structure Outer (w wr : World) (g : Nat) (P A Q : List Ed) (i : Nat) (D E : List Ed) : Prop where
  arr : Arr wr g (P ++ (D ++ (E ++ Q)))
  li : P.length + D.length = i
  lA : D.length + E.length = A.length
  ord : InOrder D
  same : ssort (D ++ E) = ssort A
  grown : w.grownBy wr (some g)
structure Inner (w wr : World) (g : Nat) (P A Q : List Ed) (i j : Nat) (S : List Ed) (x : Ed) (T E : List Ed) : Prop where
  arr : Arr wr g (P ++ (S ++ (x :: (T ++ (E ++ Q)))))
  lj : P.length + S.length = j
  li : P.length + S.length + T.length = i
  lA : S.length + 1 + T.length + E.length = A.length
  ord : InOrder (S ++ T)
  tail : ∀ t ∈ T, ltE x t
  same : ssort (S ++ x :: (T ++ E)) = ssort A
  grown : w.grownBy wr (some g)
theorem Inner.out0 {w wr : World} {g : Nat} {P A Q : List Ed} {i j : Nat} {S : List Ed} {x : Ed} {T E : List Ed} (h : Inner w wr g P A Q i j S x T E) (hs : ∀ y, S.getLast? = some y → ¬ ltE x y) : Outer w wr g P A Q (i + 1) (S ++ (x :: T)) E := by
  obtain ⟨o1, o2, o3⟩ := order_split h.ord
  refine ⟨by have := h.arr; simpa using this, by have := h.li; simp; omega, by have := h.lA; simp; omega, ?_, by have := h.same; simpa using this, h.grown⟩
  refine order_append o1 ⟨fun t ht => nlt_of_lt (h.tail t ht), o2⟩ ?_
  intro s hs1 z hz
  rcases List.mem_cons.1 hz with rfl | hz
  · -- s stands in S: not ahead of its last one
    rcases List.eq_nil_or_concat S with rfl | ⟨S', y, rfl⟩
    · simp at hs1
    · have hy := hs y (by simp)
      rw [List.concat_eq_append] at hs1 o1
      rcases List.mem_append.1 hs1 with h1 | h1
      · exact nlt_trans ((order_split o1).2.2 s h1 y (by simp)) hy
      · simp at h1; subst h1; exact hy
  · exact o3 s hs1 z hz
theorem Inner.down {w wr w' : World} {g : Nat} {P A Q : List Ed} {i j : Nat} {S : List Ed} {y x : Ed} {T E : List Ed} (h : Inner w wr g P A Q i j (S ++ [y]) x T E) (hl : ltE x y) (ha : Arr w' g (P ++ (S ++ (x :: (y :: T ++ (E ++ Q)))))) (hg : wr.grownBy w' (some g)) : Inner w w' g P A Q i (P.length + S.length) S x (y :: T) E := by
  refine ⟨ha, rfl, by have := h.li; simp at this ⊢; omega, by have := h.lA; simp at this ⊢; omega, by have := h.ord; simpa using this, ?_, ?_, grown_trans h.grown hg⟩
  · intro t ht
    rcases List.mem_cons.1 ht with rfl | ht
    · exact hl
    · exact h.tail t ht
  · have := h.same
    rw [← this]
    have := ssort_swap hl S (T ++ E)
    simp only [List.append_assoc, List.cons_append, List.nil_append]
    exact this.symm
theorem Inner.start {w wr : World} {g : Nat} {P A Q : List Ed} {i : Nat} {D : List Ed} {x : Ed} {E : List Ed} (h : Outer w wr g P A Q i D (x :: E)) : Inner w wr g P A Q i i D x [] E :=
  ⟨by have := h.arr; simpa using this, h.li, by have := h.li; simp; omega, by have := h.lA; simp at this ⊢; omega, by have := h.ord; simpa using this, fun t ht => absurd ht (by simp), by have := h.same; simpa using this, h.grown⟩
theorem Outer.fin {w wr : World} {g : Nat} {P A Q : List Ed} {i : Nat} {D E : List Ed} (h : Outer w wr g P A Q i D E) (hi : P.length + A.length ≤ i) : Arr wr g (P ++ (ssort A ++ Q)) := by
  have hE : E = [] := by
    have := h.li; have := h.lA
    exact List.eq_nil_of_length_eq_zero (by omega)
  subst hE
  have h1 := h.same
  rw [List.append_nil, ssort_fix h.ord] at h1
  rw [← h1]
  simpa using h.arr
theorem Inner.step {w wr w' : World} {g : Nat} {P A Q : List Ed} {i j : Nat} {S : List Ed} {x : Ed} {T E : List Ed} (h : Inner w wr g P A Q i j S x T E) (hb : Below wr.heap.size wr w') : Inner w w' g P A Q i j S x T E :=
  ⟨h.arr.step hb, h.lj, h.li, h.lA, h.ord, h.tail, h.same, grown_trans h.grown (grown_below hb _)⟩

theorem Outer.step {w wr w' : World} {g : Nat} {P A Q : List Ed} {i : Nat} {D E : List Ed} (h : Outer w wr g P A Q i D E) (hb : Below wr.heap.size wr w') : Outer w w' g P A Q i D E :=
  ⟨h.arr.step hb, h.li, h.lA, h.ord, h.same, grown_trans h.grown (grown_below hb _)⟩

theorem insert_none (w : World) (g a n cap : Nat) (hm : a ≤ 60) :
    Calls Try.prog 48 #[.slice (some ⟨g, 0, none⟩) n cap, .int .i64 a, .int .i64 a, .func (Fn.func 33) #[] #[]] w fun e w' => e = .returned (.tuple #[]) ∧ w = w' := by
  go_enter Try.func48, Try.ntmps48
  go_wp2_with fail
  refine wp_loop_rounds 1 ?_
  rw [rounds_succ]
  go_wp2_with fail
  go_end0
  exact ⟨rfl, rfl⟩

set_option maxHeartbeats 1000000 in
theorem insert_some (w : World) (g a b n cap : Nat) (P A Q : List Ed) (h : Arr w g (P ++ (A ++ Q))) (hn : n = (P ++ (A ++ Q)).length) (hcap : n ≤ cap) (hm : n ≤ 60) (ha : a = P.length) (hb : b = P.length + A.length) (hA : 1 ≤ A.length) :
    Calls Try.prog 48 #[.slice (some ⟨g, 0, none⟩) n cap, .int .i64 a, .int .i64 b, .func (Fn.func 33) #[] #[]] w fun e w' => SortPost w g (P ++ (ssort A ++ Q)) e w' := by
  have hlen : n = P.length + A.length + Q.length := by rw [hn]; simp; omega
  have hO : ∃ D E, Outer w w g P A Q (a + 1) D E := by
    obtain ⟨x, r, rfl⟩ : ∃ x r, A = x :: r := by
      cases A with
      | nil => simp at hA
      | cons x r => exact ⟨x, r, rfl⟩
    exact ⟨[x], r, by simpa using h, by simp; omega, by simp; omega, ⟨fun y hy => absurd hy (by simp), trivial⟩, rfl, grown_same _ _⟩
  have HO := Lib.hid hO
  have hbn : b ≤ n := by omega
  have hab : a + 1 ≤ b := by omega
  have HA := Lib.hid ha
  have HB := Lib.hid hb
  have HLEN := Lib.hid hlen
  clear hn ha hb hO h hlen hA
  go_enter Try.func48, Try.ntmps48
  go_wp2_with fail
  go_loopw [8] (fun x wr => ∃ (i : Nat) (D E : List Ed), x = .int .i64 i ∧ a + 1 ≤ i ∧ i ≤ b ∧ Outer w wr g P A Q i D E) (fun x _ => b - (intOf x).toNat)
  case atStart =>
    obtain ⟨D, E, hO⟩ := HO.out
    exact ⟨a + 1, D, E, by go_num, by omega, by omega, hO⟩
  case round =>
    obtain ⟨i, D, E, rfl, hi, hib, K⟩ := hrel
    have KH := Lib.hid K
    clear K
    by_cases hlt : i < b
    · obtain ⟨x, r, rfl⟩ : ∃ x r, E = x :: r := by
        have h1 := KH.out.li
        have h2 := KH.out.lA
        have h3 := HB.out
        cases E with
        | nil => simp at h2; omega
        | cons x r => exact ⟨x, r, rfl⟩
      have IN0 := Lib.hid (Inner.start KH.out)
      clear KH
      go_wp2_with fail
      go_loopw [9] (fun jv wr => ∃ (j : Nat) (S T : List Ed), jv = .int .i64 j ∧ a ≤ j ∧ j ≤ i ∧ Inner w wr g P A Q i j S x T r) (fun jv _ => (intOf jv).toNat - a)
      case atStart => exact ⟨i, D, [], rfl, by omega, by omega, IN0.out⟩
      case round =>
        obtain ⟨j, S, T, rfl, haj, hji, K⟩ := hrel
        clear IN0
        rcases List.eq_nil_or_concat S with rfl | ⟨S', y, rfl⟩
        · -- at the stretch's begin
          have hja : j = a := by have := K.lj; have := HA.out; simp at *; omega
          have HOUT := Lib.hid (K.out0 (fun y hy => by simp at hy))
          subst hja
          clear K
          generalize hwx : wr = wx at *
          clear hwx
          go_wp2_with fail
          refine wp_region_quiet_below (by kernel_rfl) (by kernel_rfl) ?_
          repeat (go_big_quiet_step (fail))
          refine wpQuiet_nil ?_
          intro w2 hw2
          have hb2 : Below wx.heap.size wx w2 := by obtain ⟨p, rfl⟩ := hw2; exact below_regrown _ _ _
          have HB2 := Lib.hid hb2
          clear hb2 hw2
          go_wp2_with fail
          go_roundw
          case rel => exact ⟨i + 1, _, _, by go_num, by omega, by omega, HOUT.out.step HB2.out⟩
          case measure => simp [intOf]; omega
        · rw [List.concat_eq_append] at K
          have KH := Lib.hid K
          obtain ⟨p, hp⟩ : ∃ p, p = P.length + S'.length := ⟨_, rfl⟩
          have hjp : j = p + 1 := by have := K.lj; simp at this; omega
          have eq1 : P ++ (S' ++ [y] ++ (x :: (T ++ (r ++ Q)))) = (P ++ S') ++ y :: (x :: (T ++ (r ++ Q))) := by simp
          have eq2 : P ++ (S' ++ [y] ++ (x :: (T ++ (r ++ Q)))) = (P ++ (S' ++ [y])) ++ x :: (T ++ (r ++ Q)) := by simp
          have l1 : (P ++ S').length = p := by simp [hp]
          have l2 : (P ++ (S' ++ [y])).length = j := by rw [hjp, hp]; simp; omega
          obtain ⟨e0, e1, e2⟩ := K.arr.at p y (by rw [eq1]; exact get_at _ _ _ _ l1)
          obtain ⟨f0, f1, f2⟩ := K.arr.at j x (by rw [eq2]; exact get_at _ _ _ _ l2)
          have hpj : IntKind.i64.wrap ((j : Int) - 1) = ((p : Nat) : Int) := by rw [IntWalk.i64_in _ (by omega)]; omega
          have hjn : j < n := by omega
          have hpn : p < n := by omega
          have hpa : a ≤ p := by have := HA.out; omega
          have HP := Lib.hid hp
          have HJP := Lib.hid hjp
          have HL1 := Lib.hid l1
          have HL2 := Lib.hid l2
          have haj2 : a < j := by omega
          have hgl : g < wr.heap.size := KH.out.arr.lt
          clear hp hjp l1 l2 eq1 eq2 K
          generalize hwx : wr = wx at *
          clear hwx
          by_cases hl : ltE x y
          · have hd : decide (cmpE x y < 0) = true := decide_eq_true ((cmpE_lt x y).2 hl)
            go_wp2_with fail
            go_region_held3 (fun w' => w'.cell? ⟨g, p * 3, none⟩ = some (.int .i64 y.a) ∧ w'.cell? ⟨g, p * 3 + 1, none⟩ = some (.int .i64 y.e) ∧ w'.cell? ⟨g, p * 3 + 2, none⟩ = some (.string y.t) ∧ w'.cell? ⟨g, j * 3, none⟩ = some (.int .i64 x.a) ∧ w'.cell? ⟨g, j * 3 + 1, none⟩ = some (.int .i64 x.e) ∧ w'.cell? ⟨g, j * 3 + 2, none⟩ = some (.string x.t))
              (first
                | go_keep
                | (go_split_ands
                   refine ⟨?_, ?_, ?_, ?_, ?_, ?_⟩ <;> (rw [hbp.cell (by simpa using hgl)]; assumption)))
              ((first
                | (go_at_call 33; refine (comes_any x y _).mono ?_; rintro e wp ⟨rfl, hbp⟩)))
            rename_i hS
            have hb2 : Below wx.heap.size wx wp := ((Below.refl _ _).drew).trans hbp
            clear hS hbp e0 e1 e2 f0 f1 f2
            have K2 := KH.out.step hb2
            clear hb2 KH
            obtain ⟨e0, e1, e2⟩ := K2.arr.at p y (by rw [show P ++ (S' ++ [y] ++ (x :: (T ++ (r ++ Q)))) = (P ++ S') ++ y :: (x :: (T ++ (r ++ Q))) by simp]; exact get_at _ _ _ _ HL1.out)
            obtain ⟨f0, f1, f2⟩ := K2.arr.at j x (by rw [show P ++ (S' ++ [y] ++ (x :: (T ++ (r ++ Q)))) = (P ++ (S' ++ [y])) ++ x :: (T ++ (r ++ Q)) by simp]; exact get_at _ _ _ _ HL2.out)
            have z0 := K2.arr.frozen (p * 3)
            have z1 := K2.arr.frozen (p * 3 + 1)
            have z2 := K2.arr.frozen (p * 3 + 2)
            have y0 := K2.arr.frozen (j * 3)
            have y1 := K2.arr.frozen (j * 3 + 1)
            have y2 := K2.arr.frozen (j * 3 + 2)
            have hne : ¬ p * 3 = j * 3 := by have := HJP.out; omega
            have hne2 : ¬ j * 3 = p * 3 := by have := HJP.out; omega
            have hput := (K2.arr.put j (by have h1 := HL2.out; simp at h1 ⊢; omega) y).put p (by have h1 := HL1.out; simp at h1 ⊢; omega) x
            have hset : (((P ++ (S' ++ [y] ++ (x :: (T ++ (r ++ Q))))).set j y).set p x) = P ++ (S' ++ (x :: (y :: T ++ (r ++ Q)))) := by
              rw [show P ++ (S' ++ [y] ++ (x :: (T ++ (r ++ Q)))) = (P ++ (S' ++ [y])) ++ x :: (T ++ (r ++ Q)) by simp, set_at' y x _ _ _ HL2.out]
              rw [show (P ++ (S' ++ [y])) ++ y :: (T ++ (r ++ Q)) = (P ++ S') ++ y :: (y :: (T ++ (r ++ Q))) by simp, set_at' x y _ _ _ HL1.out]
              simp
            rw [hset] at hput
            simp only [put3] at hput
            have hgp := grown_trans (grown_put wp g j y) (grown_put _ g p x)
            simp only [put3] at hgp
            have HNEXT := Lib.hid (K2.down hl hput.drew (grown_trans hgp (grown_below ((Below.refl _ _).drew) _)))
            clear hput hset hgp K2
            go_wp2_with fail
            go_region
            go_wp2_with fail
            go_roundw
            case rel => exact ⟨p, _, _, by go_num, hpa, by have := HJP.out; omega, by have := HNEXT.out; rw [← HP.out] at this; exact this⟩
            case measure => simp [intOf]; have := HJP.out; omega
          · have hd : decide (cmpE x y < 0) = false := decide_eq_false (fun h => hl ((cmpE_lt x y).1 h))
            have HOUT := Lib.hid (KH.out.out0 (fun z hz => by simp at hz; subst hz; exact hl))
            clear KH
            go_wp2_with fail
            go_region_held3 (fun w' => w'.cell? ⟨g, p * 3, none⟩ = some (.int .i64 y.a) ∧ w'.cell? ⟨g, p * 3 + 1, none⟩ = some (.int .i64 y.e) ∧ w'.cell? ⟨g, p * 3 + 2, none⟩ = some (.string y.t) ∧ w'.cell? ⟨g, j * 3, none⟩ = some (.int .i64 x.a) ∧ w'.cell? ⟨g, j * 3 + 1, none⟩ = some (.int .i64 x.e) ∧ w'.cell? ⟨g, j * 3 + 2, none⟩ = some (.string x.t))
              (first
                | go_keep
                | (go_split_ands
                   refine ⟨?_, ?_, ?_, ?_, ?_, ?_⟩ <;> (rw [hbp.cell (by simpa using hgl)]; assumption)))
              ((first
                | (go_at_call 33; refine (comes_any x y _).mono ?_; rintro e wp ⟨rfl, hbp⟩)))
            have hb2 : Below wx.heap.size wx wp := ((Below.refl _ _).drew).trans hbp
            have HB2 := Lib.hid hb2
            clear hb2 hbp
            go_wp2_with fail
            go_roundw
            case rel => exact ⟨i + 1, _, _, by go_num, by omega, by omega, HOUT.out.step HB2.out⟩
            case measure => simp [intOf]; omega
    · have hfin := KH.out.fin (by have := HB.out; omega)
      have HF := Lib.hid hfin
      have HG := Lib.hid KH.out.grown
      clear hfin KH
      go_wp2_with fail
      go_end0
      exact ⟨rfl, HF.out, HG.out⟩
end Go.Proofs.Ytficgilapbmmpaa
