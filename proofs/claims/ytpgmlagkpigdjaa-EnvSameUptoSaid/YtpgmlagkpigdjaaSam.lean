/-
  The document's Same.
-/
import Derived.Test.YtpgmlagkpigdjaaEqf
import Derived.Lib.QuietBelow
import Derived.BigQuiet
import Derived.WalkSmall
namespace Go.Proofs.Ytpgmlagkpigdjaa
open Go.RowKit
set_option maxRecDepth 20000
set_option linter.unusedVariables false
set_option linter.unusedSimpArgs false

def EqAt (a b : Bn) : Prop := a.h.k = b.h.k ∧ a.h.dc = b.h.dc ∧ SM a.ps b.ps ∧ SM a.qs b.qs
def PreEq (u v : List Bn) (k : Nat) : Prop := ∀ (i : Nat) (a b : Bn), i < k → u[i]? = some a → v[i]? = some b → EqAt a b
theorem PreEq.next {u v : List Bn} {k : Nat} {a b : Bn} (h : PreEq u v k) (ha : u[k]? = some a) (hb : v[k]? = some b) (he : EqAt a b) : PreEq u v (k + 1) := fun i x y hi hx hy => by
  by_cases hk : i = k
  · subst hk
    rw [ha] at hx; rw [hb] at hy
    obtain rfl := Option.some.inj hx
    obtain rfl := Option.some.inj hy
    exact he
  · exact h i x y (by omega) hx hy
theorem sm_no {x y : List Bn} {k : Nat} {a b : Bn} (ha : (visN x)[k]? = some a) (hb : (visN y)[k]? = some b) (h : ¬ EqAt a b) : ¬ SM x y := fun hs => h (((sm_iff x y).1 hs).2 k a b ha hb)
theorem sm_yes {x y : List Bn} (hl : (visN x).length = (visN y).length) (h : PreEq (visN x) (visN y) (visN x).length) : SM x y :=
  (sm_iff x y).2 ⟨hl, fun i a b ha hb => h i a b (List.getElem?_eq_some_iff.1 ha).1 ha hb⟩
theorem bool_neg {w w' : World} {P : Prop} {e : Ending} (h : BoolPost w P e w') (hp : ¬ P) : ∃ b : Bool, e = .returned (.bool b) ∧ (!b) = true ∧ Below w.heap.size w w' := by
  obtain ⟨b, rfl, hb, hw⟩ := h
  cases b with
  | false => exact ⟨false, rfl, rfl, hw⟩
  | true => exact absurd (hb.1 rfl) hp
set_option maxHeartbeats 16000000 in
theorem same17 : ∀ (m : Nat) (x : List Bn), sizes x ≤ m → m ≤ 4000 → ∀ (y : List Bn) (w : World) (p q : Option Addr) (n c n' c' : Nat), sizes y ≤ 4000 → Bl w p n c x → Bl w q n' c' y →
    Calls Try.prog 17 #[.slice p n c, .slice q n' c'] w (BoolPost w (SM x y)) := by
  intro m
  induction m using Nat.strongRecOn with
  | _ m ih =>
    intro x hx hm y w p q n c n' c' hy hb hq
    have IH := Lib.hid ih
    have HX := Lib.hid hx
    have HM := Lib.hid hm
    have HY := Lib.hid hy
    have HBA := Lib.hid hb.2
    have HQA := Lib.hid hq.2
    have HVX : Hid (∀ b ∈ visN x, b ∈ x) := Lib.hid fun b hb => visToN_mem _ _ _ hb
    have HVY : Hid (∀ b ∈ visN y, b ∈ y) := Lib.hid fun b hb => visToN_mem _ _ _ hb
    have HLN : Hid ((visN x).length ≤ 4000 ∧ (visN y).length ≤ 4000) := Lib.hid (by
      have h1 := visToN_len x x.length
      have h2 := visToN_len y y.length
      have h3 := sizes_len x
      have h4 := sizes_len y
      unfold visN; omega)
    have H25x : Hid (∀ W, Below w.heap.size w W → Calls Try.prog 25 #[.slice p n c] W (VisPost W (visN x))) := Lib.hid fun W hW => visible_any W p n c x (hb.1.step hW) (by have := hb.1.1; have := sizes_len x; omega)
    have H25y : Hid (∀ W, Below w.heap.size w W → Calls Try.prog 25 #[.slice q n' c'] W (VisPost W (visN y))) := Lib.hid fun W hW => visible_any W q n' c' y (hq.1.step hW) (by have := hq.1.1; have := sizes_len y; omega)
    clear ih hx hm hy hb hq
    by_cases hln : (visN x).length = (visN y).length
    · have HLE := Lib.hid hln
      clear hln
      go_enter Try.func17, Try.ntmps17
      go_wp2_with (first
        | (go_at_call 25; have hh := HB1.out; clear hh; refine (H25y.out _ HB1.out).mono ?_; rintro e w2 ⟨v2, rfl, ho2, hb2⟩; obtain ⟨q2, n2, c2, rfl, hbn2⟩ := ho2.bn; have HN2 := Lib.hid hbn2; obtain rfl : n1 = n2 := (by rw [hbn2.1, HN1.out.1, HLE.out]); have HB2 := Lib.hid (HB1.out.trans (hb2.mono HB1.out.size)); have HN1b := Lib.hid (HN1.out.step hb2); clear hbn2 hb2 ho2)
        | (go_at_call 25; refine (H25x.out _ (Below.refl _ _)).mono ?_; rintro e w1 ⟨v1, rfl, ho1, hb1⟩; obtain ⟨q1, n1, c1, rfl, hbn1⟩ := ho1.bn; have HN1 := Lib.hid hbn1; have HB1 := Lib.hid hb1; clear hbn1 hb1 ho1))
      have HN9 : Hid (n1 ≤ 4000) := Lib.hid (by rw [HN1.out.1]; exact HLN.out.1)
      go_loopw [7] (fun i wr => ∃ k : Nat, k ≤ n1 ∧ i = .int .i64 k ∧ Hid (Below w2.heap.size w2 wr) ∧ Hid (PreEq (visN x) (visN y) k)) (fun i _ => n1 - (intOf i).toNat)
      case atStart => exact ⟨0, by omega, rfl, Lib.hid (Below.refl _ _), Lib.hid fun i a b hi => by omega⟩
      case round =>
        obtain ⟨k, hk, rfl, HBW, HPE⟩ := hrel
        have hn9 := HN9.out
        by_cases hlt : k < n1
        · obtain ⟨hn1, h0 | ⟨g1, o1, rfl, hc1, hg1, hat1⟩⟩ := HN1b.out
          · omega
          obtain ⟨hn2, h0 | ⟨g2, o2, rfl, hc2, hg2, hat2⟩⟩ := HN2.out
          · omega
          obtain ⟨a, ha⟩ : ∃ a, (visN x)[k]? = some a := ⟨_, List.getElem?_eq_getElem (by omega)⟩
          obtain ⟨b, hb⟩ : ∃ b, (visN y)[k]? = some b := ⟨_, List.getElem?_eq_getElem (by omega)⟩
          obtain ⟨v0, v1, v2, v3, v4, v5⟩ := (hat1 k a ha).step hg1 HBW.out
          obtain ⟨u0, u1, u2, u3, u4, u5⟩ := (hat2 k b hb).step hg2 HBW.out
          have hg1' : g1 < wr.heap.size := Nat.lt_of_lt_of_le hg1 HBW.out.size
          have hg2' : g2 < wr.heap.size := Nat.lt_of_lt_of_le hg2 HBW.out.size
          have HBr := Lib.hid (HB2.out.trans (HBW.out.mono HB2.out.size))
          have ham := HVX.out a (List.mem_of_getElem? ha)
          have hbm := HVY.out b (List.mem_of_getElem? hb)
          have hla := (lies_iff _ _).1 ((allLie_iff _ _).1 HBA.out a ham)
          have hlb := (lies_iff _ _).1 ((allLie_iff _ _).1 HQA.out b hbm)
          have hsa := size_mem ham
          have hsb := size_mem hbm
          have hsa2 := a.size_eq
          have hsb2 := b.size_eq
          have H1 : Hid (∀ W, Below w.heap.size w W → Calls Try.prog 17 #[.slice a.h.pp a.h.pn a.h.pc, .slice b.h.pp b.h.pn b.h.pc] W (BoolPost W (SM a.ps b.ps))) := Lib.hid fun W hW => IH.out (sizes a.ps) (by have := HX.out; omega) a.ps (Nat.le_refl _) (by have := HX.out; have := HM.out; omega) b.ps W _ _ _ _ _ _ (by have := HY.out; omega) (Bl.step ⟨hla.1, hla.2.2.1⟩ hW) (Bl.step ⟨hlb.1, hlb.2.2.1⟩ hW)
          have H2 : Hid (∀ W, Below w.heap.size w W → Calls Try.prog 17 #[.slice a.h.qp a.h.qn a.h.qc, .slice b.h.qp b.h.qn b.h.qc] W (BoolPost W (SM a.qs b.qs))) := Lib.hid fun W hW => IH.out (sizes a.qs) (by have := HX.out; omega) a.qs (Nat.le_refl _) (by have := HX.out; have := HM.out; omega) b.qs W _ _ _ _ _ _ (by have := HY.out; omega) (Bl.step ⟨hla.2.1, hla.2.2.2⟩ hW) (Bl.step ⟨hlb.2.1, hlb.2.2.2⟩ hW)
          have HEA : Hid (EqAt a b ↔ (a.h.k.1 = b.h.k.1 ∧ a.h.k.2 = b.h.k.2) ∧ a.h.dc = b.h.dc ∧ SM a.ps b.ps ∧ SM a.qs b.qs) := Lib.hid (by unfold EqAt; rw [Prod.ext_iff])
          have HNO : Hid (¬ EqAt a b → ¬ SM x y) := Lib.hid (sm_no ha hb)
          have HPN : Hid (EqAt a b → PreEq (visN x) (visN y) (k + 1)) := Lib.hid fun h => HPE.out.next ha hb h
          have HCE : Hid (∀ W, Below wr.heap.size wr W → W.cell? ⟨g1, o1 + k * 6, none⟩ = some (.int .i64 a.h.k.1) ∧ W.cell? ⟨g1, o1 + k * 6 + 1, none⟩ = some (.string a.h.k.2) ∧ W.cell? ⟨g1, o1 + k * 6 + 2, none⟩ = some (.int .i64 a.h.dc) ∧ W.cell? ⟨g1, o1 + k * 6 + 4, none⟩ = some (.slice a.h.pp a.h.pn a.h.pc) ∧ W.cell? ⟨g1, o1 + k * 6 + 5, none⟩ = some (.slice a.h.qp a.h.qn a.h.qc) ∧ W.cell? ⟨g2, o2 + k * 6, none⟩ = some (.int .i64 b.h.k.1) ∧ W.cell? ⟨g2, o2 + k * 6 + 1, none⟩ = some (.string b.h.k.2) ∧ W.cell? ⟨g2, o2 + k * 6 + 2, none⟩ = some (.int .i64 b.h.dc) ∧ W.cell? ⟨g2, o2 + k * 6 + 4, none⟩ = some (.slice b.h.pp b.h.pn b.h.pc) ∧ W.cell? ⟨g2, o2 + k * 6 + 5, none⟩ = some (.slice b.h.qp b.h.qn b.h.qc)) := Lib.hid fun W hW => ⟨(hW.cell (p := ⟨g1, _, none⟩) hg1').trans v0, (hW.cell (p := ⟨g1, _, none⟩) hg1').trans v1, (hW.cell (p := ⟨g1, _, none⟩) hg1').trans v2, (hW.cell (p := ⟨g1, _, none⟩) hg1').trans v4, (hW.cell (p := ⟨g1, _, none⟩) hg1').trans v5, (hW.cell (p := ⟨g2, _, none⟩) hg2').trans u0, (hW.cell (p := ⟨g2, _, none⟩) hg2').trans u1, (hW.cell (p := ⟨g2, _, none⟩) hg2').trans u2, (hW.cell (p := ⟨g2, _, none⟩) hg2').trans u4, (hW.cell (p := ⟨g2, _, none⟩) hg2').trans u5⟩
          have r1 : (0 : Int) ≤ (k : Int) := by omega
          have r2 : (k : Int) < (n1 : Int) := by omega
          have hdr := below_d wr
          have HDr := Lib.hid (HBr.out.trans (hdr.mono HBr.out.size))
          clear v0 v1 v2 v3 v4 v5 u0 u1 u2 u3 u4 u5
          clear hat1 hat2 ha hb ham hbm hla hlb hsa hsb hsa2 hsb2 hn1 hn2 HPE
          obtain ⟨⟨⟨k1, k2⟩, dc, via, pp, pn, pc, qp, qn, qc⟩, aps, aqs⟩ := a
          obtain ⟨⟨⟨j1, j2⟩, ec, eia, rp, rn, rc, tp, tn, tc⟩, bps, bqs⟩ := b
          simp only [Bn.h, Bn.ps, Bn.qs] at *
          have hD : ∀ (z : Bool) (P : Prop) (ar : Array Value), (∀ W, Below w.heap.size w W → Calls Try.prog 17 ar W (BoolPost W P)) → (z = true ↔ P) → ∀ dn os, Calls Try.prog 17 ar (Sort.grow (redrawn wr dn) os) fun e w' => e = .returned (.bool z) ∧ ∃ p : Regrown, w' = Sort.grow (redrawn wr p.d) p.os := by
            intro z P ar hc hz dn os
            refine Calls.regrown_of ((hc _ (HBr.out.trans ((below_regrown wr dn os).mono HBr.out.size))).mono ?_)
            rintro e w' ⟨o, rfl, ho, hb⟩
            have : o = z := by
              have : o = true ↔ z = true := by rw [ho, hz]
              cases o <;> cases z <;> simp at this ⊢
            exact ⟨by rw [this], hb⟩
          obtain ⟨t0, t1, t2, t4, t5, s0, s1, s2, s4, s5⟩ := HCE.out wr (Below.refl _ _)
          have y0 := fun dn os => cell_regrown t0 dn os
          have y1 := fun dn os => cell_regrown t1 dn os
          have y2 := fun dn os => cell_regrown t2 dn os
          have y4 := fun dn os => cell_regrown t4 dn os
          have y5 := fun dn os => cell_regrown t5 dn os
          have z0 := fun dn os => cell_regrown s0 dn os
          have z1 := fun dn os => cell_regrown s1 dn os
          have z2 := fun dn os => cell_regrown s2 dn os
          have z4 := fun dn os => cell_regrown s4 dn os
          have z5 := fun dn os => cell_regrown s5 dn os
          clear t0 t1 t2 t4 t5 s0 s1 s2 s4 s5
          by_cases e1 : k1 = j1
          · by_cases e2 : k2 = j2
            · by_cases e3 : dc = ec
              · have n1' : (k1 != j1) = false := by simp [e1]
                have n2' : (k2.toList != j2.toList) = false := by simp [e2]
                have n3' : (dc != ec) = false := by simp [e3]
                subst e1 e2 e3
                by_cases f1 : SM aps bps
                · have hc1 := hD true _ _ H1.out ⟨fun _ => f1, fun _ => rfl⟩
                  by_cases f2 : SM aqs bqs
                  · have hc2 := hD true _ _ H2.out ⟨fun _ => f2, fun _ => rfl⟩
                    clear hD
                    go_wp2_with fail
                    try simp only [List.append_eq, List.cons_append, List.nil_append]
                    refine wp_region_quiet_below (by kernel_rfl) (by kernel_rfl) ?_
                    repeat (go_big_quiet_step (first | (with_reducible exact hc1 _ _) | (with_reducible exact hc2 _ _)))
                    refine wpQuiet_nil ?_
                    intro w6 hw6
                    have hb6 : Below wr.heap.size wr w6 := by obtain ⟨p, rfl⟩ := hw6; exact below_regrown _ _ _
                    have HB6 := Lib.hid hb6
                    clear hw6 hb6 y0 y1 y2 y4 y5 z0 z1 z2 z4 z5 hc1 hc2
                    go_wp2_with fail
                    go_roundw
                    case rel => exact ⟨k + 1, by omega, by go_num, Lib.hid (HBW.out.trans (HB6.out.mono HBW.out.size)), Lib.hid (HPN.out (HEA.out.2 ⟨⟨by trivial, by trivial⟩, by trivial, f1, f2⟩))⟩
                    case measure => simp [intOf]; omega
                  · have hc2 := hD false _ _ H2.out ⟨fun h => by (cases h), fun h => absurd h f2⟩
                    clear hD
                    go_wp2_with fail
                    try simp only [List.append_eq, List.cons_append, List.nil_append]
                    refine wp_region_quiet_below (by kernel_rfl) (by kernel_rfl) ?_
                    repeat (go_big_quiet_step (first | (with_reducible exact hc1 _ _) | (with_reducible exact hc2 _ _)))
                    refine wpQuiet_nil ?_
                    intro w6 hw6
                    have hb6 : Below wr.heap.size wr w6 := by obtain ⟨p, rfl⟩ := hw6; exact below_regrown _ _ _
                    have HB6 := Lib.hid hb6
                    clear hw6 hb6 y0 y1 y2 y4 y5 z0 z1 z2 z4 z5 hc1 hc2
                    go_wp2_with fail
                    go_ret
                    exact bool_no (HNO.out (fun h => f2 (HEA.out.1 h).2.2.2)) (HBr.out.trans (HB6.out.mono HBr.out.size))
                · have hc1 := hD false _ _ H1.out ⟨fun h => by (cases h), fun h => absurd h f1⟩
                  clear hD
                  go_wp2_with fail
                  try simp only [List.append_eq, List.cons_append, List.nil_append]
                  refine wp_region_quiet_below (by kernel_rfl) (by kernel_rfl) ?_
                  repeat (go_big_quiet_step (first | (with_reducible exact hc1 _ _)))
                  refine wpQuiet_nil ?_
                  intro w6 hw6
                  have hb6 : Below wr.heap.size wr w6 := by obtain ⟨p, rfl⟩ := hw6; exact below_regrown _ _ _
                  have HB6 := Lib.hid hb6
                  clear hw6 hb6 y0 y1 y2 y4 y5 z0 z1 z2 z4 z5 hc1
                  go_wp2_with fail
                  go_ret
                  exact bool_no (HNO.out (fun h => f1 (HEA.out.1 h).2.2.1)) (HBr.out.trans (HB6.out.mono HBr.out.size))
              · have hq : (dc != ec) = true := by simp [e3]
                subst e1 e2
                clear hD
                go_wp2_with fail
                try simp only [List.append_eq, List.cons_append, List.nil_append]
                refine wp_region_quiet_below (by kernel_rfl) (by kernel_rfl) ?_
                repeat (go_big_quiet_step (fail))
                refine wpQuiet_nil ?_
                intro w6 hw6
                have hb6 : Below wr.heap.size wr w6 := by obtain ⟨p, rfl⟩ := hw6; exact below_regrown _ _ _
                have HB6 := Lib.hid hb6
                clear hw6 hb6 y0 y1 y2 y4 y5 z0 z1 z2 z4 z5 
                go_wp2_with fail
                go_ret
                exact bool_no (HNO.out (fun h => e3 (HEA.out.1 h).2.1)) (HBr.out.trans (HB6.out.mono HBr.out.size))
            · have hq : (k2.toList != j2.toList) = true := by simp [ba_toList, e2]
              have hq2 : (k2.toList == j2.toList) = false := by simp [ba_toList, e2]
              subst e1
              clear hD
              go_wp2_with fail
              try simp only [List.append_eq, List.cons_append, List.nil_append]
              refine wp_region_quiet_below (by kernel_rfl) (by kernel_rfl) ?_
              repeat (go_big_quiet_step (fail))
              refine wpQuiet_nil ?_
              intro w6 hw6
              have hb6 : Below wr.heap.size wr w6 := by obtain ⟨p, rfl⟩ := hw6; exact below_regrown _ _ _
              have HB6 := Lib.hid hb6
              clear hw6 hb6 y0 y1 y2 y4 y5 z0 z1 z2 z4 z5 
              go_wp2_with fail
              go_ret
              exact bool_no (HNO.out (fun h => e2 (HEA.out.1 h).1.2)) (HBr.out.trans (HB6.out.mono HBr.out.size))
          · have hq : (k1 != j1) = true := by simp [e1]
            clear hD
            go_wp2_with fail
            try simp only [List.append_eq, List.cons_append, List.nil_append]
            refine wp_region_quiet_below (by kernel_rfl) (by kernel_rfl) ?_
            repeat (go_big_quiet_step (fail))
            refine wpQuiet_nil ?_
            intro w6 hw6
            have hb6 : Below wr.heap.size wr w6 := by obtain ⟨p, rfl⟩ := hw6; exact below_regrown _ _ _
            have HB6 := Lib.hid hb6
            clear hw6 hb6 y0 y1 y2 y4 y5 z0 z1 z2 z4 z5 
            go_wp2_with fail
            go_ret
            exact bool_no (HNO.out (fun h => e1 (HEA.out.1 h).1.1)) (HBr.out.trans (HB6.out.mono HBr.out.size))
        · have HYES : Hid (SM x y) := Lib.hid (sm_yes HLE.out (by have h1 := HN1.out.1; have h2 : k = n1 := (by omega); rw [← h1, ← h2]; exact HPE.out))
          go_wp2_with fail
          go_ret
          exact bool_yes HYES.out (HB2.out.trans (HBW.out.mono HB2.out.size))
    · have HLE := Lib.hid hln
      clear hln
      go_enter Try.func17, Try.ntmps17
      go_wp2_with (first
        | (go_at_call 25; have hh := HB1.out; clear hh; refine (H25y.out _ HB1.out).mono ?_; rintro e w2 ⟨v2, rfl, ho2, hb2⟩; obtain ⟨q2, n2, c2, rfl, hbn2⟩ := ho2.bn; have hnn : ((n1 : Int) != (n2 : Int)) = true := (by have h1 := HN1.out.1; have h2 := hbn2.1; have h3 := HLE.out; simp only [bne_iff_ne, ne_eq, Int.natCast_inj]; omega); have HB2 := Lib.hid (HB1.out.trans (hb2.mono HB1.out.size)); clear hbn2 hb2 ho2)
        | (go_at_call 25; refine (H25x.out _ (Below.refl _ _)).mono ?_; rintro e w1 ⟨v1, rfl, ho1, hb1⟩; obtain ⟨q1, n1, c1, rfl, hbn1⟩ := ho1.bn; have HN1 := Lib.hid hbn1; have HB1 := Lib.hid hb1; clear hbn1 hb1 ho1))
      go_ret
      exact bool_no (fun h => HLE.out ((sm_iff x y).1 h).1) HB2.out
end Go.Proofs.Ytpgmlagkpigdjaa
