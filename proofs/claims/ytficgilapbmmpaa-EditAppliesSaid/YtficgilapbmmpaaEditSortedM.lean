/-
  The walk of EditSorted for some edits.
-/
import Derived.Test.YtficgilapbmmpaaEditSorted
namespace Go.Proofs.Ytficgilapbmmpaa
open Go.RowKit
set_option linter.unusedVariables false

theorem editsIn_mk {w : World} {b off n cap : Nat} {l : List Ed} (hn : l.length = n) (hc : n ≤ cap) (hb : b < w.heap.size) (hat : EditsAt w b off l) : EditsIn w (some ⟨b, off, none⟩) n cap l :=
  ⟨hn.symm, .inr ⟨b, off, rfl, hc, hb, hat⟩⟩
theorem cells_at {w w1 : World} {b off : Nat} {l : List Ed} (h : EditsAt w b off l) (hb : b < w.heap.size) (hw : Below w.heap.size w w1) (k : Nat) (hk : k < l.length) :
    w1.cell? ⟨b, off + k * 3, none⟩ = some (.int .i64 l[k].a) ∧ w1.cell? ⟨b, off + k * 3 + 1, none⟩ = some (.int .i64 l[k].e) ∧ w1.cell? ⟨b, off + k * 3 + 2, none⟩ = some (.string l[k].t) := h.step hb hw k hk

set_option maxRecDepth 100000 in
set_option maxHeartbeats 4000000 in
theorem editSorted_some (s : ByteArray) (b off cap n : Nat) (l a : List Ed) (w : World) (hat : EditsAt w b off l) (hb : b < w.heap.size) (hcap : n ≤ cap) (hs : s.size ≤ 400) (hf : fewB l = true) (hn : l.length = n) (h0 : 0 < n) (ha : ssort l = a) :
    Calls Try.prog 8 #[.string s, .slice (some ⟨b, off, none⟩) n cap] w fun e w' => e = .returned (.bool true) ∧ Below w.heap.size w w' := by
  have hn60 : n ≤ 60 := by rw [← hn]; exact (bytes_of_few hf).1
  have han : a.length = n := by rw [← ha, ssort_length, hn]
  have haa : ssort a = a := by rw [← ha]; exact ssort_fix (ssort_order l)
  have hord : InOrder a := by rw [← ha]; exact ssort_order l
  have hcnt : ∀ x, cntE x a = cntE x l := fun x => by rw [← ha]; exact cntE_ssort x l
  have htx := text_small (bytes_of_few hf).2
  have hta : ∀ x ∈ a, x.t.size ≤ 2000 := fun x hx => htx x (by rw [← ha] at hx; exact (mem_ssort x l).1 hx)
  have HIN := Lib.hid (editsIn_mk hn hcap hb hat)
  have HF := few_eq _ n cap l true hf w HIN.out (by omega)
  have HS := Lib.hid (sorted_len a l b off cap n w hn hat hb hcap hn60 h0 htx ha)
  have HN := Lib.hid hn
  have HAN := Lib.hid han
  have HA := Lib.hid haa
  have HO := Lib.hid hord
  have HCNT := Lib.hid hcnt
  have HTA := Lib.hid hta
  have HAT := Lib.hid hat
  have HSL := Lib.hid (fun (h : checkN s.size l = 0) => (ha.symm.trans (ssort_of_check h) : a = l))
  have hckc := checkN_cases s.size l
  clear hat hf hn han ha haa hord hcnt htx hta
  go_enter Try.func8, Try.ntmps8
  go_wp2_with fail
  refine HF.mono ?_
  rintro e w0 ⟨rfl, rfl⟩
  go_wp2_with fail
  refine HS.out.mono ?_
  rintro e w1 ⟨g, c, rfl, hc, hwg, hg, hga, hb1⟩
  have hz1 := hb1.size
  have HGA := Lib.hid hga
  clear hga HF HS
  go_wp2_with fail
  refine (sorted_len a a g 0 c n w1 HAN.out HGA.out hg hc hn60 h0 HTA.out HA.out).mono ?_
  rintro e w2 ⟨g2, c2, rfl, hc2, hwg2, hg2, hga2, hb2⟩
  have hz2 := hb2.size
  have HGA2 := Lib.hid (editsIn_mk HAN.out hc2 hg2 hga2)
  have HGA1 := Lib.hid ((editsIn_mk HAN.out hc hg HGA.out).step hb2)
  clear hga2
  go_wp2_with fail
  refine (same_any _ _ n n c2 c a a w2 HGA2.out HGA1.out (by omega)).mono ?_
  rintro e w3 ⟨rfl, hb3⟩
  have hz3 := hb3.size
  have hdd : decide (a = a) = true := by simp
  rw [hdd]
  clear hdd HGA2 HGA1
  have hb13 : Below w1.heap.size w1 w3 := hb2.trans (hb3.mono hz2)
  have HL3 := Lib.hid (HAT.out.step hb (hb1.trans (hb13.mono hz1)))
  have HA3 := Lib.hid (HGA.out.step hg hb13)
  have hb3' : b < w3.heap.size := by omega
  have hg3' : g < w3.heap.size := by omega
  have HB03 := Lib.hid (hb1.trans (hb13.mono hz1))
  clear hb1 hb2 hb3 hb13
  go_wp2_with fail
  go_loopw [37] (fun i wr => ∃ k : Nat, k ≤ n ∧ i = .int .i64 k ∧ Below w3.heap.size w3 wr) (fun i _ => n - (intOf i).toNat)
  case atStart => exact ⟨0, by omega, rfl, Below.refl _ _⟩
  case round =>
    obtain ⟨k, hk, rfl, rb⟩ := hrel
    have rz := rb.size
    have RB := Lib.hid rb
    by_cases hlt : k < n
    · obtain ⟨e0, e1, e2⟩ := cells_at HL3.out hb3' rb k (by rw [HN.out]; exact hlt)
      generalize l[k]'(by rw [HN.out]; exact hlt) = x at e0 e1 e2
      clear rb
      obtain ⟨wo, hwo⟩ : ∃ wo : World, wo = wr := ⟨_, rfl⟩
      subst hwo
      go_wp2_with fail
      go_loopw [8, 9, 43] (fun p q i wr => ∃ j : Nat, j ≤ n ∧ i = .int .i64 j ∧ p = .int .i64 (cntE x (l.take j)) ∧ q = .int .i64 (cntE x (a.take j)) ∧ Below w3.heap.size w3 wr ∧ wo.heap.size < wr.heap.size ∧ wr.cell? ⟨wo.heap.size, 0, none⟩ = some (.int .i64 x.a) ∧ wr.cell? ⟨wo.heap.size, 1, none⟩ = some (.int .i64 x.e) ∧ wr.cell? ⟨wo.heap.size, 2, none⟩ = some (.string x.t)) (fun _ _ i _ => n - (intOf i).toNat)
      case atStart => exact ⟨0, by omega, rfl, rfl, rfl, RB.out.alloc rz _, by simp, by simp [go_sem], by simp [go_sem], by simp [go_sem]⟩
      case round =>
        obtain ⟨j, hj, rfl, rfl, rfl, rj, hzj, x0, x1, x2⟩ := hrel
        have RJ := Lib.hid rj
        have rjz := rj.size
        have c1 := cntE_le x (l.take j)
        have c2 := cntE_le x (a.take j)
        have c3 : (l.take j).length ≤ j := List.length_take_le _ _
        have c4 : (a.take j).length ≤ j := List.length_take_le _ _
        by_cases hjt : j < n
        · have hjl : j < l.length := by rw [HN.out]; exact hjt
          have hja : j < a.length := by rw [HAN.out]; exact hjt
          obtain ⟨d0, d1, d2⟩ := cells_at HL3.out hb3' rj j hjl
          obtain ⟨f0, f1, f2⟩ := cells_at HA3.out hg3' rj j hja
          rw [Nat.zero_add] at f0 f1 f2
          have P1 : Hid (cntE x (l.take (j + 1)) = cntE x (l.take j) + (bif decide (l[j] = x) then 1 else 0)) := Lib.hid (cntE_take x l j hjl)
          have P2 : Hid (cntE x (a.take (j + 1)) = cntE x (a.take j) + (bif decide (a[j] = x) then 1 else 0)) := Lib.hid (cntE_take x a j hja)
          generalize l[j] = y at *
          generalize a[j] = z at *
          generalize cntE x (l.take j) = P at *
          generalize cntE x (a.take j) = Q at *
          clear rj
          have E1 : ∀ w', (Op.equalIn 10000 55 (.agg #[.int .i64 y.a, .int .i64 y.e, .string y.t]) (.agg #[.int .i64 x.a, .int .i64 x.e, .string x.t])).run Try.prog w' = .ok (decide (y = x)) w' := fun w' => eq55 y x w'
          have E2 : ∀ w', (Op.equalIn 10000 55 (.agg #[.int .i64 z.a, .int .i64 z.e, .string z.t]) (.agg #[.int .i64 x.a, .int .i64 x.e, .string x.t])).run Try.prog w' = .ok (decide (z = x)) w' := fun w' => eq55 z x w'
          generalize decide (y = x) = by1 at *
          generalize decide (z = x) = bz1 at *
          cases by1 <;> cases bz1
          all_goals
            go_wp2_with fail
            go_quiet (fail)
            go_wp2_with fail
            go_quiet (fail)
            go_wp2_with fail
            go_roundw
            case rel => exact ⟨j + 1, by omega, by go_num, by rw [P1.out]; go_num, by rw [P2.out]; go_num, below_drewN RJ.out _, hzj, x0, x1, x2⟩
            case measure => simp [intOf]; omega
        · have hjj : j = n := by omega
          have hcc : ((cntE x (l.take j) : Nat) : Int) = (cntE x (a.take j) : Nat) := by
            rw [hjj, List.take_of_length_le (by rw [HN.out]; omega), List.take_of_length_le (by rw [HAN.out]; omega), HCNT.out x]
          generalize ((cntE x (l.take j) : Nat) : Int) = P at *
          subst hcc
          go_wp2_with fail
          go_roundw
          case rel => exact ⟨k + 1, by omega, by go_num, RJ.out⟩
          case measure => simp [intOf]; omega
    · clear rb
      obtain ⟨wo, hwo⟩ : ∃ wo : World, wo = wr := ⟨_, rfl⟩
      subst hwo
      go_wp2_with fail
      go_loopw [11] (fun i wr => ∃ j : Nat, 1 ≤ j ∧ j ≤ n ∧ i = .int .i64 j ∧ Below w3.heap.size w3 wr) (fun i _ => n - (intOf i).toNat)
      case atStart => exact ⟨1, by omega, by omega, rfl, RB.out⟩
      case round =>
        obtain ⟨j, hj1, hj, rfl, rj⟩ := hrel
        have RJ := Lib.hid rj
        have rjz := rj.size
        by_cases hjt : j < n
        · obtain ⟨i, rfl⟩ : ∃ i, j = i + 1 := ⟨j - 1, by omega⟩
          have hia : i < a.length := by rw [HAN.out]; omega
          have hja : i + 1 < a.length := by rw [HAN.out]; exact hjt
          obtain ⟨d0, d1, d2⟩ := cells_at HA3.out hg3' rj i hia
          obtain ⟨f0, f1, f2⟩ := cells_at HA3.out hg3' rj (i + 1) hja
          rw [Nat.zero_add] at d0 d1 d2 f0 f1 f2
          have ho := order_next HO.out i hja
          generalize a[i] = y at *
          generalize a[i + 1] = z at *
          clear rj RB
          have ho1 : ¬ z.a < y.a := fun h => ho (Or.inl h)
          have ho2 : z.a = y.a → ¬ z.e < y.e := fun h g => ho (Or.inr ⟨h, g⟩)
          clear ho
          have i1 : IntKind.i64.wrap (((i + 1 : Nat) : Int) - 1) = (i : Int) := IntWalk.i64_in _ (by omega) |>.trans (by omega)
          by_cases hyz : y.a = z.a
          · have hyb : (y.a == z.a) = true := by rw [beq_iff_eq]; exact hyz
            have h2 := ho2 hyz.symm
            have hd1 : decide (z.a < y.a) = false := by simpa using ho1
            have hd2 : decide (z.e < y.e) = false := by simpa using h2
            clear hyz ho2
            go_wp2_with fail
            go_quiet (fail)
            go_wp2_with fail
            go_roundw
            case rel => exact ⟨i + 1 + 1, by omega, by omega, by go_num, below_drewN RJ.out _⟩
            case measure => simp [intOf]; omega
          · have hyb : (y.a == z.a) = false := by rw [beq_eq_false_iff_ne]; exact hyz
            have hd1 : decide (z.a < y.a) = false := by simpa using ho1
            clear hyz ho2
            go_wp2_with fail
            go_quiet (fail)
            go_wp2_with fail
            go_roundw
            case rel => exact ⟨i + 1 + 1, by omega, by omega, by go_num, below_drewN RJ.out _⟩
            case measure => simp [intOf]; omega
        · have HIN5 := Lib.hid (HIN.out.step (HB03.out.trans (RJ.out.mono (by omega))))
          have HGA5 := Lib.hid ((editsIn_mk HAN.out hc hg3' HA3.out).step RJ.out)
          have HBR := Lib.hid (HB03.out.trans (RJ.out.mono (by omega)))
          clear rj RB
          go_wp2_with fail
          refine (check_any s.size _ n cap l _ HIN5.out hn60).mono ?_
          rintro e w5 ⟨rfl, hb5⟩
          have hz5 := hb5.size
          have HIN6 := Lib.hid (HIN5.out.step hb5)
          have HGA6 := Lib.hid (HGA5.out.step hb5)
          have HB5 := Lib.hid (HBR.out.trans (hb5.mono (by omega)))
          clear hb5
          by_cases hck : checkN s.size l = 0
          · have HS := Lib.hid (HSL.out hck)
            rw [hck] at *
            clear hck hckc
            go_wp2_with fail
            refine (same_any _ _ n n c cap a l w5 HGA6.out HIN6.out (by omega)).mono ?_
            rintro e w6 ⟨rfl, hb6⟩
            have hz6 := hb6.size
            have hdd : decide (a = l) = true := by simpa using HS.out
            rw [hdd]
            clear hdd
            have HB6 := Lib.hid (HB5.out.trans (hb6.mono (by omega)))
            clear hb6
            go_wp2_with (go_at_call 10; refine (alive_any _).mono ?_; rintro e w7 ⟨rfl, hb7⟩)
            go_ret
            exact ⟨rfl, HB6.out.trans (hb7.mono (by omega))⟩
          · have hcb : (checkN s.size l == 0) = false := by rw [beq_eq_false_iff_ne]; exact hck
            have hcb2 : (checkN s.size l != 0) = true := by rw [bne, hcb]; rfl
            clear hck HSL
            generalize checkN s.size l = cc at *
            go_wp2_with (go_at_call 10; refine (alive_any _).mono ?_; rintro e w7 ⟨rfl, hb7⟩)
            go_ret
            exact ⟨rfl, HB5.out.trans (hb7.mono (by omega))⟩

theorem editSorted_walk (s : ByteArray) (p : Option Addr) (n cap : Nat) (l : List Ed) (w : World) (hs : s.size ≤ 9223372036854775807) (hn : n ≤ 9223372036854775807) (hin : EditsIn w p n cap l) :
    Calls Try.prog 8 #[.string s, .slice p n cap] w fun e w' => e = .returned (.bool true) ∧ Below w.heap.size w w' := by
  by_cases h1 : 400 < s.size
  · exact editSorted_long s p n cap w hs h1
  · by_cases h2 : fewB l = true
    · obtain ⟨hl, h0 | ⟨b, off, rfl, hc, hb, hat⟩⟩ := hin
      · subst h0
        exact editSorted_none s p cap w (by omega)
      · by_cases h0 : 0 < n
        · exact editSorted_some s b off cap n l _ w hat hb hc (by omega) h2 hl.symm h0 rfl
        · have : n = 0 := by omega
          subst this
          exact editSorted_none s _ cap w (by omega)
    · exact editSorted_many s p n cap l w hin hn (by omega) (by simpa using h2)
end Go.Proofs.Ytficgilapbmmpaa
