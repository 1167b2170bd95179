/-
  The document's Links, walked.
-/
import Derived.Test.YtckddpnjammfmaaApn
import Derived.Test.YtckddpnjammfmaaLnw
import Derived.BigRegion
import Derived.Test.YtckddpnjammfmaaAlw
import Derived.BigQuiet
import Derived.WalkSmall
import Derived.Deep.CutRange
namespace Go.Proofs.Ytckddpnjammfmaa
open Go.RowKit
set_option maxRecDepth 20000
set_option linter.unusedVariables false
set_option linter.unusedSimpArgs false

theorem kdown_yes {out : List P2} {p q : P2} {j : Nat} (h : out[j]? = some q) (hq : plt p q = true) : kdown out p (j + 1) = kdown out p j := by
  unfold kdown; rw [h]; simp [above, hq]; cases j <;> rfl
theorem kdown_no {out : List P2} {p q : P2} {j : Nat} (h : out[j]? = some q) (hq : plt p q = false) : kdown out p (j + 1) = j + 1 := by
  unfold kdown; rw [h]; simp [above, hq]
/-- Where the box of the pair lies; the row so far. -/
structure Rl (w wr : World) (B : Nat) (p : P2) (q : Option Addr) (n c : Nat) (out : List P2) : Prop where
  own : OwnP 48 wr w.heap.size (.slice q n c) out
  below : Below w.heap.size w wr
  box : wr.heap[B]? = some (.cells #[.int .i64 p.1, .int .i64 p.2] 48 (0, 0))
theorem Rl.step {w wr w1 : World} {B : Nat} {p : P2} {q : Option Addr} {n c : Nat} {out : List P2} (h : Rl w wr B p q n c out) (hw : Below wr.heap.size wr w1) : Rl w w1 B p q n c out :=
  ⟨h.own.step hw, h.below.trans (hw.mono h.below.size), heap_step h.box hw⟩
set_option maxHeartbeats 8000000 in
theorem refLinks_any (q : Option Addr) (m c : Nat) (l : List P2) (w : World) (h : PS w q m c l) (hm : m ≤ 60) :
    Calls Try.prog 16 #[.slice q m c] w fun e w' => ∃ v, e = .returned v ∧ OwnP 48 w' w.heap.size v (puts l) ∧ Below w.heap.size w w' := by
  obtain ⟨i48, hi48, hx0, hx1, hx2⟩ := info_parts info48
  have HP := Lib.hid h
  obtain ⟨hml, _⟩ := h
  have HML := Lib.hid hml
  clear hml
  go_enter Try.func16, Try.ntmps16
  go_wp2_with fail
  go_loopw [3, 4] (fun v i wr => ∃ (k : Nat), k ≤ m ∧ i = .int .i64 k ∧ Hid (OwnP 48 wr w.heap.size v (puts (l.take k))) ∧ Hid (Below w.heap.size w wr)) (fun _ i _ => m - (intOf i).toNat)
  case atStart => exact ⟨0, by omega, rfl, Lib.hid (OwnP.nil _ _ _), Lib.hid (Below.refl _ _)⟩
  case round =>
    obtain ⟨k, hk, rfl, HO, HB⟩ := hrel
    by_cases hlt : k < m
    · obtain ⟨hmm, h0 | ⟨gb, o, rfl, hcb, hgb, hat⟩⟩ := HP.out
      · omega
      clear hmm
      obtain ⟨p, hp⟩ : ∃ p, l[k]? = some p := ⟨_, List.getElem?_eq_getElem (by have := HML.out; omega)⟩
      obtain ⟨v0, v1⟩ := hat k p hp
      rw [← HB.out.cell (p := ⟨gb, _, none⟩) hgb] at v0 v1
      have hbz := HB.out.size
      have hgb2 : gb < wr.heap.size := by omega
      have s1 : (0 : Int) ≤ (k : Int) := by omega
      have s2 : (k : Int) < (m : Int) := by omega
      obtain ⟨out2, ho2⟩ : ∃ out2, out2 = puts (l.take (k + 1)) := ⟨_, rfl⟩
      have HO2 := Lib.hid ho2
      have HTK : Hid (out2 = put (puts (l.take k)) (nrm p)) := Lib.hid (by rw [ho2, take_snoc hp, puts_snoc])
      have HLN : Hid ((puts (l.take k)).length ≤ 60) := Lib.hid (by have := puts_len (l.take k); simp only [List.length_take] at this; omega)
      clear hp hat ho2
      obtain ⟨qv, nv, cv, hv, hps⟩ := HO.out.ps
      subst hv
      have hnv : nv ≤ 60 := by have := hps.1; have := HLN.out; omega
      have HNV : Hid (nv = (puts (l.take k)).length) := Lib.hid hps.1
      generalize puts (l.take k) = out at *
      obtain ⟨pa, pb⟩ := p
      simp only at v0 v1
      clear hps
      obtain ⟨P, hP⟩ : ∃ P : P2, P = nrm (pa, pb) := ⟨_, rfl⟩
      have hP1 : min pa pb = P.1 := by rw [hP]; rfl
      have hP2 : max pa pb = P.2 := by rw [hP]; rfl
      rw [← hP] at HTK
      have HRL : Hid (Rl w (wr.alloc (.cells #[.int .i64 P.1, .int .i64 P.2] 48)).drew wr.heap.size P qv nv cv out) := Lib.hid (by
        have hb2 : Below wr.heap.size wr (wr.alloc (.cells #[.int .i64 P.1, .int .i64 P.2] 48)).drew := ((Below.refl _ _).alloc (Nat.le_refl _) _).drew
        exact ⟨HO.out.step hb2, HB.out.trans (hb2.mono hbz), heap_new wr _⟩)
      clear hP
      go_upto_region 5 with fail
      go_cut [5] from 8 to 107 (fun v5 wx => v5 = .pointer (some ⟨wr.heap.size, 0, none⟩) ∧ wx = (wr.alloc (.cells #[.int .i64 P.1, .int .i64 P.2] 48)).drew)
      case first =>
        as_aux_lemma =>
          go_region
          go_wp2_with fail
          go_meet
          exact ⟨rfl, rfl⟩
      obtain ⟨rfl, rfl⟩ := hcut
      clear v0 v1 hgb2 hP1 hP2 hbz
      obtain ⟨B, hB⟩ : ∃ B, B = wr.heap.size := ⟨_, rfl⟩
      rw [← hB] at HRL ⊢
      clear hB
      generalize (wr.alloc (.cells #[.int .i64 P.1, .int .i64 P.2] 48)).drew = W1 at *
      go_wp2_with fail
      clear HO HB
      go_loopw [6] (fun v6 wi => ∃ j : Nat, j ≤ nv ∧ v6 = .int .i64 j ∧ Hid (kdown out P nv = kdown out P j) ∧ Hid (Rl w wi B P qv nv cv out)) (fun v6 _ => (intOf v6).toNat)
      case atStart => exact ⟨nv, Nat.le_refl _, rfl, Lib.hid rfl, HRL⟩
      case round =>
        obtain ⟨j, hj, rfl, HK, HR⟩ := hrel
        clear HRL
        have c0 : wr.cell? ⟨B, 0, none⟩ = some (.int .i64 P.1) := (cellH HR.out.box 0).trans rfl
        have c1 : wr.cell? ⟨B, 1, none⟩ = some (.int .i64 P.2) := (cellH HR.out.box 1).trans rfl
        have hB1 : B < wr.heap.size := heap_lt HR.out.box
        obtain ⟨gk, hgk⟩ : ∃ gk : Bool, gk = (decide (0 < j) && above P out[j - 1]?) := ⟨_, rfl⟩
        have HGK := Lib.hid hgk
        clear hgk
        go_upto_region 7 with fail
        go_cut [73] from 39 to 75 (fun v73 wx => v73 = .bool gk ∧ Hid (Rl w wx B P qv nv cv out))
        case first =>
          by_cases hj0 : 0 < j
          · obtain ⟨i, hi⟩ : ∃ i, j = i + 1 := ⟨j - 1, by omega⟩
            obtain ⟨x, hx⟩ : ∃ x, out[i]? = some x := ⟨_, List.getElem?_eq_getElem (by have := HNV.out; omega)⟩
            have hgk : gk = plt P x := by rw [HGK.out, hi, Nat.add_sub_cancel, hx]; simp [above]
            clear HGK
            rcases HR.out.own.slice with ⟨h1, h2⟩ | ⟨g, cg, h1, hg0, hg1, hg2⟩
            · rw [h2] at hx; simp at hx
            simp only [Value.slice.injEq] at h1
            obtain ⟨rfl, hnn, rfl⟩ := h1
            have hown := HR.out.own
            rw [hnn] at hown
            obtain ⟨d0, d1⟩ := hown.cells i x hx
            have q1 : (j : Int) - 1 = (i : Nat) := by omega
            have q2' : decide (0 < j) = true := by simp [hj0]
            have q3 : (0 : Int) ≤ (i : Int) := by omega
            have q4 : (i : Int) < (nv : Int) := by omega
            clear hi hx hown hnn hg2
            by_cases h1 : P.1 < x.1
            · have hg : gk = true := by rw [hgk]; simp [plt, h1]
              subst hg
              clear hgk
              as_aux_lemma =>
                refine wp_region_quiet_lit (by kernel_rfl) (by kernel_rfl) ?_
                repeat (go_big_quiet_step (fail))
                refine wpQuiet_nil ?_
                intro w6 hw6
                obtain ⟨nq, rfl⟩ := hw6
                go_wp2_with fail
                go_meet
                exact ⟨rfl, Lib.hid (HR.out.step (below_drewN (Below.refl _ _) _))⟩
            · by_cases h2 : P.1 = x.1
              · rw [← h2] at d0 h1
                have h5 : (P.1 == P.1) = true := by simp
                by_cases h3 : P.2 < x.2
                · have hg : gk = true := by rw [hgk]; simp [plt, h2, h3]
                  subst hg
                  clear hgk h2
                  as_aux_lemma =>
                    refine wp_region_quiet_lit (by kernel_rfl) (by kernel_rfl) ?_
                    repeat (go_big_quiet_step (fail))
                    refine wpQuiet_nil ?_
                    intro w6 hw6
                    obtain ⟨nq, rfl⟩ := hw6
                    go_wp2_with fail
                    go_meet
                    exact ⟨rfl, Lib.hid (HR.out.step (below_drewN (Below.refl _ _) _))⟩
                · have hg : gk = false := by rw [hgk]; simp [plt, h2, h3]
                  subst hg
                  clear hgk h2
                  as_aux_lemma =>
                    refine wp_region_quiet_lit (by kernel_rfl) (by kernel_rfl) ?_
                    repeat (go_big_quiet_step (fail))
                    refine wpQuiet_nil ?_
                    intro w6 hw6
                    obtain ⟨nq, rfl⟩ := hw6
                    go_wp2_with fail
                    go_meet
                    exact ⟨rfl, Lib.hid (HR.out.step (below_drewN (Below.refl _ _) _))⟩
              · have hg : gk = false := by rw [hgk]; simp [plt, h1, h2]
                have h5 : (x.1 == P.1) = false := by
                  rw [beq_eq_false_iff_ne]; exact fun e => h2 e.symm
                subst hg
                clear hgk h2
                as_aux_lemma =>
                  refine wp_region_quiet_lit (by kernel_rfl) (by kernel_rfl) ?_
                  repeat (go_big_quiet_step (fail))
                  refine wpQuiet_nil ?_
                  intro w6 hw6
                  obtain ⟨nq, rfl⟩ := hw6
                  go_wp2_with fail
                  go_meet
                  exact ⟨rfl, Lib.hid (HR.out.step (below_drewN (Below.refl _ _) _))⟩
          · have hg : gk = false := by rw [HGK.out]; simp [hj0]
            have q2' : decide (0 < j) = false := by simp [hj0]
            subst hg
            clear HGK
            as_aux_lemma =>
              refine wp_region_quiet_lit (by kernel_rfl) (by kernel_rfl) ?_
              repeat (go_big_quiet_step (fail))
              refine wpQuiet_nil ?_
              intro w6 hw6
              obtain ⟨nq, rfl⟩ := hw6
              go_wp2_with fail
              go_meet
              exact ⟨rfl, Lib.hid (HR.out.step (below_drewN (Below.refl _ _) _))⟩
        case rest =>
          obtain ⟨rfl, HR2⟩ := hcut
          clear HR c0 c1 hB1
          cases gk with
          | true =>
            have hgo : 0 < j ∧ above P out[j - 1]? = true := by have := HGK.out; simpa using this.symm
            obtain ⟨i, hi⟩ : ∃ i, j = i + 1 := ⟨j - 1, by omega⟩
            have hab := hgo.2
            rw [hi, Nat.add_sub_cancel] at hab
            obtain ⟨x, hx⟩ : ∃ x, out[i]? = some x := ⟨_, List.getElem?_eq_getElem (by have := HNV.out; omega)⟩
            rw [hx] at hab
            have HK2 : Hid (kdown out P nv = kdown out P i) := Lib.hid (by rw [HK.out, hi]; exact kdown_yes hx hab)
            have hin : i ≤ nv := by omega
            have hij : i < j := by omega
            have q1 : (j : Int) - 1 = (i : Nat) := by omega
            clear hgo hab hx hi
            go_wp2_with fail
            go_roundw
            case rel => exact ⟨i, hin, by go_num, HK2, HR2⟩
            case measure => simp [intOf]; omega
          | false =>
            have HKD : Hid (kdown out P nv = j) := Lib.hid (by
              rw [HK.out]
              by_cases hj0 : 0 < j
              · obtain ⟨i, hi⟩ : ∃ i, j = i + 1 := ⟨j - 1, by omega⟩
                obtain ⟨x, hx⟩ : ∃ x, out[i]? = some x := ⟨_, List.getElem?_eq_getElem (by have := HNV.out; omega)⟩
                have := HGK.out
                rw [hi, Nat.add_sub_cancel, hx] at this
                simp [above] at this
                rw [hi]; exact kdown_no hx this
              · have : j = 0 := by omega
                rw [this]; rfl)
            clear HK HGK
            obtain ⟨sk, hsk⟩ : ∃ sk : Bool, sk = (decide (P.1 = P.2) || (decide (0 < j) && decide (out[j - 1]? = some P))) := ⟨_, rfl⟩
            have HSK := Lib.hid hsk
            clear hsk
            have c0 : wc.cell? ⟨B, 0, none⟩ = some (.int .i64 P.1) := (cellH HR2.out.box 0).trans rfl
            have c1 : wc.cell? ⟨B, 1, none⟩ = some (.int .i64 P.2) := (cellH HR2.out.box 1).trans rfl
            have hB1 : B < wc.heap.size := heap_lt HR2.out.box
            go_upto_region 9 with fail
            go_cut [93] from 8 to 107 (fun v93 wx => v93 = .bool sk ∧ Hid (Rl w wx B P qv nv cv out))
            case first =>
              by_cases h1 : P.1 = P.2
              · have hg : sk = true := by rw [HSK.out]; simp [h1]
                have h5 : (P.1 == P.2) = true := by simp [h1]
                subst hg
                clear HSK h1
                as_aux_lemma =>
                  refine wp_region_quiet_lit (by kernel_rfl) (by kernel_rfl) ?_
                  repeat (go_big_quiet_step (fail))
                  refine wpQuiet_nil ?_
                  intro w6 hw6
                  obtain ⟨nq, rfl⟩ := hw6
                  go_wp2_with fail
                  go_meet
                  exact ⟨rfl, Lib.hid (HR2.out.step (below_drewN (Below.refl _ _) _))⟩
              · have h5 : (P.1 == P.2) = false := by rw [beq_eq_false_iff_ne]; exact h1
                by_cases hj0 : 0 < j
                · obtain ⟨i, hi⟩ : ∃ i, j = i + 1 := ⟨j - 1, by omega⟩
                  obtain ⟨x, hx⟩ : ∃ x, out[i]? = some x := ⟨_, List.getElem?_eq_getElem (by have := HNV.out; omega)⟩
                  have hgs : sk = decide (x = P) := by rw [HSK.out, hi, Nat.add_sub_cancel, hx]; simp [h1]
                  rcases HR2.out.own.slice with ⟨k1, k2⟩ | ⟨g, cg, k1, hg0, hg1, hg2⟩
                  · rw [k2] at hx; simp at hx
                  simp only [Value.slice.injEq] at k1
                  obtain ⟨rfl, hnn, rfl⟩ := k1
                  have hown := HR2.out.own
                  rw [hnn] at hown
                  obtain ⟨d0, d1⟩ := hown.cells i x hx
                  have q1 : (j : Int) - 1 = (i : Nat) := by omega
                  have q2' : decide (0 < j) = true := by simp [hj0]
                  have q3 : (0 : Int) ≤ (i : Int) := by omega
                  have q4 : (i : Int) < (nv : Int) := by omega
                  have he := fun W => eql48 x P W
                  rw [← hgs] at he
                  clear hi hx hown hnn hg2 HSK h1 hgs
                  as_aux_lemma =>
                    refine wp_region_quiet_lit (by kernel_rfl) (by kernel_rfl) ?_
                    repeat (go_big_quiet_step (fail))
                    refine wpQuiet_nil ?_
                    intro w6 hw6
                    obtain ⟨nq, rfl⟩ := hw6
                    go_wp2_with fail
                    go_meet
                    exact ⟨rfl, Lib.hid (HR2.out.step (below_drewN (Below.refl _ _) _))⟩
                · have hg : sk = false := by rw [HSK.out]; simp [h1, hj0]
                  have q2' : decide (0 < j) = false := by simp [hj0]
                  subst hg
                  clear HSK h1
                  as_aux_lemma =>
                    refine wp_region_quiet_lit (by kernel_rfl) (by kernel_rfl) ?_
                    repeat (go_big_quiet_step (fail))
                    refine wpQuiet_nil ?_
                    intro w6 hw6
                    obtain ⟨nq, rfl⟩ := hw6
                    go_wp2_with fail
                    go_meet
                    exact ⟨rfl, Lib.hid (HR2.out.step (below_drewN (Below.refl _ _) _))⟩
            obtain ⟨rfl, HR3⟩ := hcut
            clear HR2 c0 c1 hB1
            cases sk with
            | true =>
              have HPUT : Hid (out2 = out) := Lib.hid (by rw [HTK.out]; unfold put; simp only; rw [← HNV.out, HKD.out, ← HSK.out]; rfl)
              go_wp2_with fail
              go_roundw
              case rel => exact ⟨k + 1, by omega, by go_num, Lib.hid (by rw [← HO2.out, HPUT.out]; exact HR3.out.own), Lib.hid HR3.out.below⟩
              case measure => simp [intOf]; omega
            | false =>
              have HPUT : Hid (out2 = out.take j ++ [P] ++ out.drop j) := Lib.hid (by rw [HTK.out]; unfold put; simp only; rw [← HNV.out, HKD.out, ← HSK.out]; rfl)
              obtain ⟨q', n', c', hv', hps'⟩ := HR3.out.own.ps
              simp only [Value.slice.injEq] at hv'
              obtain ⟨e1, e2, e3⟩ := hv'
              rw [← e1, ← e2, ← e3] at hps'
              clear e1 e2 e3
              have hto := slice_to25 i48 hi48 hx1 hps' j hj
              obtain ⟨pf, hfr, hpf⟩ := slice_from25 i48 hi48 hx1 hps' j hj
              have h97 := hto.1
              have HTO := Lib.hid hto.2
              have HFR := Lib.hid hpf
              obtain ⟨n2, hn2⟩ : ∃ n2, nv - j = n2 := ⟨_, rfl⟩
              obtain ⟨c2, hc2⟩ : ∃ c2, cv - j = c2 := ⟨_, rfl⟩
              rw [hn2, hc2] at hfr HFR
              have hn2' : n2 ≤ 60 := by omega
              clear hto hpf hps' hn2 hc2
              have HLJ : Hid ((out.take j).length = j ∧ (out.drop j).length = n2) := Lib.hid ⟨HTO.out.1.symm, HFR.out.1.symm⟩
              have HE0 : Hid ((wc.alloc (.cells #[] 48)).ownsRow wc.heap.size 48 2 (.slice (some ⟨wc.heap.size, 0, none⟩) 0 0) 0 []) := Lib.hid (World.ownsRow_lit wc #[] 0 (Nat.le_refl _) (by unfold maxLen; omega) rfl)
              have HG0 := Lib.hid ((Below.refl wc.heap.size wc).alloc (Nat.le_refl _) (.cells #[] 48))
              have hj60 : j ≤ 60 := by omega
              go_wp2_with (first
                | (at_builtin; have hx := HS2.out; clear hx; refine wpList_append_ps _ rfl _ _ 25 rfl wc.heap.size 48 i48 _ 16 Try.underlying25 hi48 hx0 hx1 hx2 rfl _ _ _ rfl HS2.out pf n2 c2 (out.drop j) rfl (HFR.out.step HG2.out) (by unfold maxLen; omega) (by omega) HG2.out.size ?_; intro v3 w3 hown3 hg3; have HO3 := Lib.hid hown3; have HG3 := Lib.hid (HG2.out.grown hg3 HG2.out.size (fun a ha => (World.ownsRow.lt HS2.out a ha).1)); clear hown3 hg3)
                | (at_builtin; have hx := HS1.out; clear hx; refine wpList_append_ps _ rfl _ _ 25 rfl wc.heap.size 48 i48 _ 16 Try.underlying25 hi48 hx0 hx1 hx2 rfl _ _ _ rfl (World.ownsRow.alloc HS1.out _) (some ⟨_, 0, none⟩) 1 1 [P] rfl (ps_lit1 _ P) (by unfold maxLen; omega) (by omega) (by have := HG1.out.size; simp; omega) ?_; intro v2 w2 hown2 hg2; have HS2 := Lib.hid hown2; have HG2 := Lib.hid ((HG1.out.alloc HG1.out.size _).grown hg2 (by have := HG1.out.size; simp; omega) (fun a ha => (World.ownsRow.lt HS1.out a ha).1)); clear hown2 hg2)
                | (at_builtin; refine wpList_append_ps _ rfl _ _ 25 rfl wc.heap.size 48 i48 _ 16 Try.underlying25 hi48 hx0 hx1 hx2 rfl _ _ _ rfl HE0.out qv j cv (out.take j) rfl (HTO.out.step HG0.out) (by unfold maxLen; omega) (by omega) HG0.out.size ?_; intro v1 w1 hown1 hg1; have HS1 := Lib.hid hown1; have HG1 := Lib.hid (HG0.out.grown hg1 HG0.out.size (fun a ha => (World.ownsRow.lt HE0.out a ha).1)); have bx1 := heap_step HR3.out.box HG1.out; have x0 : w1.cell? ⟨B, 0, none⟩ = some (.int .i64 P.1) := (cellH bx1 0).trans rfl; have x1 : w1.cell? ⟨B, 1, none⟩ = some (.int .i64 P.2) := (cellH bx1 1).trans rfl; have hB3 := heap_lt bx1; clear hown1 hg1 bx1)
                | go_in)
              have HFIN : Hid (OwnP 48 w3 w.heap.size v3 out2) := Lib.hid (by
                rw [HPUT.out]
                refine OwnP.base ?_ HR3.out.below.size
                have h1 := HO3.out
                have h2 := HLJ.out
                unfold OwnP
                rw [pcells_append, pcells_append, List.length_append, List.length_append, h2.1, h2.2]
                simpa [pcells, Nat.add_assoc] using h1)
              have HBF := Lib.hid (HR3.out.below.trans (HG3.out.mono HR3.out.below.size))
              go_roundw
              case rel => exact ⟨k + 1, by omega, by go_num, Lib.hid (by rw [← HO2.out]; exact HFIN.out), HBF⟩
              case measure => simp [intOf]; omega
    · have hkm : k = m := by omega
      have HF : Hid (OwnP 48 wr w.heap.size u3 (puts l)) := Lib.hid (by have := HO.out; rwa [hkm, HML.out, List.take_length] at this)
      clear hkm
      go_wp2_with fail
      go_ret
      exact ⟨_, rfl, HF.out, HB.out⟩
end Go.Proofs.Ytckddpnjammfmaa
