/-
  Are two branches the same: the document's way.
-/
import Derived.Test.YtcijjeflojaocaaKids
namespace Go.Proofs.Ytcijjeflojaocaa
open Go.RowKit
set_option linter.unusedVariables false
set_option linter.unusedSimpArgs false

set_option maxHeartbeats 1000000 in
theorem refInts_any (p : Option Addr) (n c : Nat) (l : List Int) (p' : Option Addr) (n' c' : Nat) (l' : List Int) (w : World) (h : In mkI w p n c l) (h' : In mkI w p' n' c' l') (hn : n ≤ 17592186044416) :
    Calls Try.prog 35 #[.slice p n c, .slice p' n' c'] w fun e w' => e = .returned (.bool (sameI l l')) ∧ Below w.heap.size w w' := by
  by_cases hln : n = n'
  · subst hln
    have hl := h.1
    have hl' := h'.1
    have HA := Lib.hid h
    have HA' := Lib.hid h'
    have HL := Lib.hid hl
    have HL' := Lib.hid hl'
    clear h h' hl hl'
    have hnz : (0 : Int) ≤ (n : Int) := by omega
    go_enter Try.func35, Try.ntmps35
    go_wp2_with fail
    go_loopw [5] (fun i wr => ∃ k : Nat, k ≤ n ∧ i = .int .i64 k ∧ Hid (∀ i (h1 : i < l.length) (h2 : i < l'.length), i < k → l[i] = l'[i]) ∧ ∃ m, wr = w.drewN m) (fun i _ => n - (intOf i).toNat)
    case atStart => exact ⟨0, by omega, rfl, Lib.hid (fun i _ _ h => by omega), 0, rfl⟩
    case round =>
      obtain ⟨k, hk, rfl, HE, m, rfl⟩ := hrel
      by_cases hlt : k < n
      · obtain ⟨b, off, rfl, hc1, hb, hat⟩ := HA.out.2.resolve_left (by omega)
        obtain ⟨b', off', rfl, hc1', hb', hat'⟩ := HA'.out.2.resolve_left (by omega)
        have hkl : k < l.length := by rw [← HL.out]; exact hlt
        have hkl' : k < l'.length := by rw [← HL'.out]; exact hlt
        have c0 : w.cell? ⟨b, off + k, none⟩ = some (.int .i64 l[k]) := hat k hkl
        have c1 : w.cell? ⟨b', off' + k, none⟩ = some (.int .i64 l'[k]) := hat' k hkl'
        have hk1 : (0 : Int) ≤ (k : Int) := by omega
        have hk2 : (k : Int) < (n : Int) := by omega
        by_cases heq : l[k] = l'[k]
        · have HE2 : Hid (∀ i (h1 : i < l.length) (h2 : i < l'.length), i < k + 1 → l[i] = l'[i]) := Lib.hid fun i h1 h2 hi => by
            rcases Nat.lt_or_ge i k with h3 | h3
            · exact HE.out i h1 h2 h3
            · obtain rfl : i = k := by omega
              exact heq
          rw [← heq] at c1
          clear heq hat hat'
          generalize l[k] = t at *
          go_wp2
          go_quiet (fail)
          go_wp2
          go_roundw
          case rel => exact ⟨k + 1, by omega, by go_num, HE2, _, rfl⟩
          case measure => simp [intOf]; omega
        · have HR := Lib.hid (sameI_at hkl hkl' heq)
          clear hat hat'
          have hne : (l[k] == l'[k]) = false := by rw [beq_eq_false_iff_ne]; exact heq
          generalize l[k] = t at *
          generalize l'[k] = t' at *
          go_wp2
          go_quiet (fail)
          go_wp2
          go_ret
          exact ⟨ret_bool HR.out.symm, below_drewN (below_drewN (Below.refl _ _) _) _⟩
      · have HR : Hid (sameI l l' = true) := Lib.hid (sameI_all (by rw [← HL.out, ← HL'.out]) fun i h1 h2 => HE.out i h1 h2 (by rw [← HL.out] at h1; omega))
        go_wp2
        go_ret
        exact ⟨ret_bool HR.out.symm, below_drewN (Below.refl _ _) _⟩
  · have HR : Hid (sameI l l' = false) := Lib.hid (sameI_len (by rw [← h.1, ← h'.1]; exact hln))
    have hne : ((n : Int) == (n' : Int)) = false := by rw [beq_eq_false_iff_ne]; omega
    clear h h'
    go_enter Try.func35, Try.ntmps35
    go_wp2
    go_ret
    exact ⟨ret_bool HR.out.symm, Below.refl _ _⟩
set_option maxHeartbeats 1000000 in
theorem equal_any (p : Option Addr) (n c : Nat) (l : List Int) (p' : Option Addr) (n' c' : Nat) (l' : List Int) (w : World) (h : In mkI w p n c l) (h' : In mkI w p' n' c' l') (hn : n ≤ 17592186044416) :
    Calls Try.prog 38 #[.slice p n c, .slice p' n' c'] w fun e w' => e = .returned (.bool (sameI l l')) ∧ Below w.heap.size w w' := by
  by_cases hln : n = n'
  · subst hln
    have hl := h.1
    have hl' := h'.1
    have HA := Lib.hid h
    have HA' := Lib.hid h'
    have HL := Lib.hid hl
    have HL' := Lib.hid hl'
    clear h h' hl hl'
    have hnz : (0 : Int) ≤ (n : Int) := by omega
    go_enter Try.func38, Try.ntmps38
    go_wp2_with fail
    go_loopw [13] (fun i wr => ∃ k : Nat, k ≤ n ∧ i = .int .i64 k ∧ Hid (∀ i (h1 : i < l.length) (h2 : i < l'.length), i < k → l[i] = l'[i]) ∧ ∃ m, wr = w.drewN m) (fun i _ => n - (intOf i).toNat)
    case atStart => exact ⟨0, by omega, rfl, Lib.hid (fun i _ _ h => by omega), 0, rfl⟩
    case round =>
      obtain ⟨k, hk, rfl, HE, m, rfl⟩ := hrel
      by_cases hlt : k < n
      · obtain ⟨b, off, rfl, hc1, hb, hat⟩ := HA.out.2.resolve_left (by omega)
        obtain ⟨b', off', rfl, hc1', hb', hat'⟩ := HA'.out.2.resolve_left (by omega)
        have hkl : k < l.length := by rw [← HL.out]; exact hlt
        have hkl' : k < l'.length := by rw [← HL'.out]; exact hlt
        have c0 : w.cell? ⟨b, off + k, none⟩ = some (.int .i64 l[k]) := hat k hkl
        have c1 : w.cell? ⟨b', off' + k, none⟩ = some (.int .i64 l'[k]) := hat' k hkl'
        have hk1 : (0 : Int) ≤ (k : Int) := by omega
        have hk2 : (k : Int) < (n : Int) := by omega
        by_cases heq : l[k] = l'[k]
        · have HE2 : Hid (∀ i (h1 : i < l.length) (h2 : i < l'.length), i < k + 1 → l[i] = l'[i]) := Lib.hid fun i h1 h2 hi => by
            rcases Nat.lt_or_ge i k with h3 | h3
            · exact HE.out i h1 h2 h3
            · obtain rfl : i = k := by omega
              exact heq
          rw [← heq] at c1
          clear heq hat hat'
          generalize l[k] = t at *
          go_wp2
          go_quiet (fail)
          go_wp2
          go_roundw
          case rel => exact ⟨k + 1, by omega, by go_num, HE2, _, rfl⟩
          case measure => simp [intOf]; omega
        · have HR := Lib.hid (sameI_at hkl hkl' heq)
          clear hat hat'
          have hne : (l[k] == l'[k]) = false := by rw [beq_eq_false_iff_ne]; exact heq
          generalize l[k] = t at *
          generalize l'[k] = t' at *
          go_wp2
          go_quiet (fail)
          go_wp2
          go_ret
          exact ⟨ret_bool HR.out.symm, below_drewN (below_drewN (Below.refl _ _) _) _⟩
      · have HR : Hid (sameI l l' = true) := Lib.hid (sameI_all (by rw [← HL.out, ← HL'.out]) fun i h1 h2 => HE.out i h1 h2 (by rw [← HL.out] at h1; omega))
        go_wp2
        go_ret
        exact ⟨ret_bool HR.out.symm, below_drewN (Below.refl _ _) _⟩
  · have HR : Hid (sameI l l' = false) := Lib.hid (sameI_len (by rw [← h.1, ← h'.1]; exact hln))
    have hne : ((n : Int) == (n' : Int)) = false := by rw [beq_eq_false_iff_ne]; omega
    clear h h'
    go_enter Try.func38, Try.ntmps38
    go_wp2
    go_ret
    exact ⟨ret_bool HR.out.symm, Below.refl _ _⟩

mutual
/-- Are two branches the same, part by part? -/
def Br.same : Br → Br → Bool
  | .mk h ks, b => decide (h.k = b.h.k) && (decide (h.m = b.h.m) && (decide (h.f = b.h.f) && (decide (h.t = b.h.t) && (sameI h.ns b.h.ns && (decide (ks.length = b.ks.length) && sames ks b.ks)))))
def sames : List Br → List Br → Bool
  | [], _ => true
  | x :: r, l => match l with
    | [] => true
    | y :: s => x.same y && sames r s
end
theorem same_eq (a b : Br) : a.same b = (decide (a.h.k = b.h.k) && (decide (a.h.m = b.h.m) && (decide (a.h.f = b.h.f) && (decide (a.h.t = b.h.t) && (sameI a.h.ns b.h.ns && (decide (a.ks.length = b.ks.length) && sames a.ks b.ks)))))) := by
  cases a; cases b; rfl

set_option maxHeartbeats 4000000 in
theorem refSame_any (a : Br) : ∀ (b : Br) (w : World), a.Lies w → b.Lies w → a.Fits → a.size ≤ 1000 →
    Calls Try.prog 19 #[a.h.val, b.h.val] w fun e w' => e = .returned (.bool (a.same b)) ∧ Below w.heap.size w w' := by
  induction a using Br.ind with
  | hP h ks ih =>
    intro b w hl hl' hfit hsz
    obtain ⟨w1, e1, c1, l1, b1, s1⟩ := boxed w _ hl
    obtain ⟨w2, e2, c2, l2, b2, s2⟩ := boxed w1 _ (hl'.step _ b1)
    have c1 := c1.step (by omega) b2
    have l1 := l1.step _ b2
    have b12 := b1.trans (b2.mono (by omega))
    obtain ⟨hnames, hkids, hall⟩ := (lies_iff _ _).1 l1
    obtain ⟨hnames', hkids', hall'⟩ := (lies_iff _ _).1 l2
    simp only [Br.Fits, fitsAll_iff] at hfit
    simp only [Br.h, Br.ks, Br.size] at hnames hkids hall c1 hsz e1 e2 ⊢
    have HR := Lib.hid (same_eq (.mk h ks) b)
    simp only [Br.h, Br.ks] at HR
    obtain ⟨g, js⟩ := b
    simp only [Br.h, Br.ks] at hnames' hkids' hall' c2 e2 HR ⊢
    obtain ⟨hk, hm, hf, ht, np, nn, nc, ns, kp, kn, kc⟩ := h
    obtain ⟨gk, gm, gf, gt, np', nn', nc', ns', kp', kn', kc'⟩ := g
    obtain ⟨hfit1, hfit2⟩ := hfit
    have hkn : kn = ks.length := hkids.1
    have hkn' : kn' = js.length := hkids'.1
    subst hkn hkn'
    have hlen := sizes_len ks
    simp only at hfit1 hnames hnames' hkids hkids' HR
    have HI1 := Lib.hid (refInts_any np nn nc ns np' nn' nc' ns' w2 hnames hnames' (by omega))
    have HK := Lib.hid hkids
    have HK' := Lib.hid hkids'
    have HL := Lib.hid hall
    have HL' := Lib.hid hall'
    have HI := Lib.hid ih
    have HF2 := Lib.hid hfit2
    have HB := Lib.hid b12
    have HC1 := Lib.hid c1
    have HC2 := Lib.hid c2
    have S1 := Lib.hid s1
    have S2 := Lib.hid s2
    have E2 := Lib.hid e2
    subst e1
    generalize (Br.mk ⟨hk, hm, hf, ht, np, nn, nc, ns, kp, ks.length, kc⟩ ks).same (Br.mk ⟨gk, gm, gf, gt, np', nn', nc', ns', kp', js.length, kc'⟩ js) = q at *
    generalize sameI ns ns' = qi at *
    clear hnames hnames' hkids hkids' hall hall' ih hfit2 b12 c1 c2 l1 l2 b1 b2 hl hl' hfit1 s1 s2 e2
    by_cases h1 : hk = gk
    · by_cases h2 : hm = gm
      · by_cases h3 : hf = gf
        · by_cases h4 : ht = gt
          · subst h1 h2 h3 h4
            simp only [decide_true, Bool.true_and] at HR
            cases hqi : qi
            · have hq : q = false := by rw [HR.out, hqi]; rfl
              subst hq
              rw [hqi] at HI1
              go_enter Try.func19, Try.ntmps19
              go_wp2_with fail
              rw [← E2.out]
              refine HI1.out.mono ?_
              rintro e w3 ⟨rfl, hb3⟩
              have HB3 := Lib.hid (HB.out.trans (hb3.mono HB.out.size))
              clear hb3
              go_wp2_with fail
              go_ret
              exact ⟨rfl, HB3.out⟩
            · rw [hqi] at HI1
              by_cases h5 : ks.length = js.length
              · have HR2 : Hid (q = sames (ks.drop 0) (js.drop 0)) := Lib.hid (by rw [HR.out, hqi]; simp [h5])
                have H5 := Lib.hid h5
                have hlj : ((ks.length : Int) == (js.length : Int)) = true := by rw [beq_iff_eq]; omega
                have hlj2 : ((ks.length : Int) != (js.length : Int)) = false := by simp [h5]
                clear HR h5
                go_enter Try.func19, Try.ntmps19
                go_wp2_with fail
                rw [← E2.out]
                refine HI1.out.mono ?_
                rintro e w3 ⟨rfl, hb3⟩
                have HB3 := Lib.hid hb3
                have hs2 := HB.out.size
                have hz3 := hb3.size
                have hz1 := S1.out
                have hz2 := S2.out
                obtain ⟨_, _, _, _, _, a5⟩ := (HC1.out.step (by omega) hb3).box
                obtain ⟨_, _, _, _, _, d5⟩ := (HC2.out.step (by omega) hb3).box
                rw [hz1] at d5
                clear hb3
                go_wp2_with fail
                go_loopw [5] (fun iv wr => ∃ i : Nat, i ≤ ks.length ∧ iv = .int .i64 i ∧ Hid (q = sames (ks.drop i) (js.drop i)) ∧ Below w3.heap.size w3 wr) (fun iv _ => ks.length - (intOf iv).toNat)
                case atStart => exact ⟨0, by omega, rfl, HR2, Below.refl _ _⟩
                case round =>
                  obtain ⟨i, hi, rfl, HQ, hbe⟩ := hrel
                  have t5 := (hbe.cell (p := ⟨w.heap.size, _, none⟩) (by show w.heap.size < w3.heap.size; omega)).trans a5
                  have u5 := (hbe.cell (p := ⟨w.heap.size + 1, _, none⟩) (by show w.heap.size + 1 < w3.heap.size; omega)).trans d5
                  have hz := hbe.size
                  by_cases hlt : i < ks.length
                  · have hlt' : i < js.length := by rw [← H5.out]; exact hlt
                    have hb3e := HB3.out.trans (hbe.mono hz3)
                    obtain ⟨bx, ox, rfl, _, hbx, hatx⟩ := (HK.out.step hb3e).2.resolve_left (by omega)
                    obtain ⟨bY, oY, rfl, _, hbY, hatY⟩ := (HK'.out.step hb3e).2.resolve_left (by omega)
                    obtain ⟨x0, x1, x2, x3, x4, x5⟩ := hatx i hlt
                    obtain ⟨y0, y1, y2, y3, y4, y5⟩ := hatY i hlt'
                    have hmem := List.getElem_mem hlt
                    have hmem' := List.getElem_mem hlt'
                    have hxs : ks[i].size ≤ 1000 := by have := size_le_sizes hmem; omega
                    have HX := Lib.hid (HI.out ks[i] hmem js[i] wr.drew (((HL.out _ hmem).step _ hb3e).step _ (Below.refl _ _).drew) (((HL'.out _ hmem').step _ hb3e).step _ (Below.refl _ _).drew) (HF2.out _ hmem) hxs)
                    have HD : Hid (q = (ks[i].same js[i] && sames (ks.drop (i + 1)) (js.drop (i + 1)))) := Lib.hid (by
                      rw [HQ.out, List.drop_eq_getElem_cons hlt, List.drop_eq_getElem_cons hlt']; simp only [sames])
                    have hr1 : (0 : Int) ≤ (i : Int) := by omega
                    have hr2 : (i : Int) < (ks.length : Int) := by omega
                    have hr3 : (i : Int) < (js.length : Int) := by omega
                    have HBE := Lib.hid hbe
                    have hwn : w.heap.size < wr.heap.size := by omega
                    have hwn1 : w.heap.size + 1 < wr.heap.size := by omega
                    clear hatx hatY hmem hmem' hxs hbe hb3e a5 d5 HK HK' HL HL' HI HF2 HQ H5 HI1 HC1 HC2 S1 S2 E2
                    generalize ks[i] = x at *
                    generalize js[i] = y at *
                    cases hxy : x.same y
                    · have hq : q = false := by rw [HD.out, hxy]; rfl
                      subst hq
                      rw [hxy] at HX
                      clear HD hxy
                      go_wp2_with fail
                      go_region_held3 (fun w' => w'.cell? ⟨w.heap.size, 5, none⟩ = some (.slice (some ⟨bx, ox, none⟩) ks.length kc) ∧ w'.cell? ⟨w.heap.size + 1, 5, none⟩ = some (.slice (some ⟨bY, oY, none⟩) js.length kc') ∧ w'.cell? ⟨bx, ox + i * 6, none⟩ = some (.int .i64 x.h.k) ∧ w'.cell? ⟨bx, ox + i * 6 + 1, none⟩ = some (.int .i64 x.h.m) ∧ w'.cell? ⟨bx, ox + i * 6 + 2, none⟩ = some (.int .i64 x.h.f) ∧ w'.cell? ⟨bx, ox + i * 6 + 3, none⟩ = some (.int .i64 x.h.t) ∧ w'.cell? ⟨bx, ox + i * 6 + 4, none⟩ = some (.slice x.h.np x.h.nn x.h.nc) ∧ w'.cell? ⟨bx, ox + i * 6 + 5, none⟩ = some (.slice x.h.kp x.h.kn x.h.kc) ∧ w'.cell? ⟨bY, oY + i * 6, none⟩ = some (.int .i64 y.h.k) ∧ w'.cell? ⟨bY, oY + i * 6 + 1, none⟩ = some (.int .i64 y.h.m) ∧ w'.cell? ⟨bY, oY + i * 6 + 2, none⟩ = some (.int .i64 y.h.f) ∧ w'.cell? ⟨bY, oY + i * 6 + 3, none⟩ = some (.int .i64 y.h.t) ∧ w'.cell? ⟨bY, oY + i * 6 + 4, none⟩ = some (.slice y.h.np y.h.nn y.h.nc) ∧ w'.cell? ⟨bY, oY + i * 6 + 5, none⟩ = some (.slice y.h.kp y.h.kn y.h.kc)) (go_keep) ((first | (go_at_call 19; refine HX.out.mono ?_; rintro e w4 ⟨rfl, hb4⟩; have z0 := (hb4.cell (p := ⟨w.heap.size, _, none⟩) hwn).trans t5; have z1 := (hb4.cell (p := ⟨w.heap.size + 1, _, none⟩) hwn1).trans u5; have z2 := (hb4.cell (p := ⟨bx, _, none⟩) hbx).trans x0; have z3 := (hb4.cell (p := ⟨bx, _, none⟩) hbx).trans x1; have z4 := (hb4.cell (p := ⟨bx, _, none⟩) hbx).trans x2; have z5 := (hb4.cell (p := ⟨bx, _, none⟩) hbx).trans x3; have z6 := (hb4.cell (p := ⟨bx, _, none⟩) hbx).trans x4; have z7 := (hb4.cell (p := ⟨bx, _, none⟩) hbx).trans x5; have z8 := (hb4.cell (p := ⟨bY, _, none⟩) hbY).trans y0; have z9 := (hb4.cell (p := ⟨bY, _, none⟩) hbY).trans y1; have z10 := (hb4.cell (p := ⟨bY, _, none⟩) hbY).trans y2; have z11 := (hb4.cell (p := ⟨bY, _, none⟩) hbY).trans y3; have z12 := (hb4.cell (p := ⟨bY, _, none⟩) hbY).trans y4; have z13 := (hb4.cell (p := ⟨bY, _, none⟩) hbY).trans y5)))
                      have hb4' : Below wr.heap.size wr w4 := ((Below.refl _ _).drew).trans hb4
                      have HB4 := Lib.hid (HB.out.trans ((HB3.out.trans (HBE.out.mono hz3)).mono HB.out.size |>.trans (hb4'.mono (by show w.heap.size ≤ wr.heap.size; omega))))
                      clear hb4 hb4'
                      go_wp2_with fail
                      go_ret
                      exact ⟨by first | trivial | rfl, HB4.out⟩
                    · have HD2 : Hid (q = sames (ks.drop (i + 1)) (js.drop (i + 1))) := Lib.hid (by rw [HD.out, hxy]; rfl)
                      rw [hxy] at HX
                      clear HD hxy
                      go_wp2_with fail
                      go_region_held3 (fun w' => w'.cell? ⟨w.heap.size, 5, none⟩ = some (.slice (some ⟨bx, ox, none⟩) ks.length kc) ∧ w'.cell? ⟨w.heap.size + 1, 5, none⟩ = some (.slice (some ⟨bY, oY, none⟩) js.length kc') ∧ w'.cell? ⟨bx, ox + i * 6, none⟩ = some (.int .i64 x.h.k) ∧ w'.cell? ⟨bx, ox + i * 6 + 1, none⟩ = some (.int .i64 x.h.m) ∧ w'.cell? ⟨bx, ox + i * 6 + 2, none⟩ = some (.int .i64 x.h.f) ∧ w'.cell? ⟨bx, ox + i * 6 + 3, none⟩ = some (.int .i64 x.h.t) ∧ w'.cell? ⟨bx, ox + i * 6 + 4, none⟩ = some (.slice x.h.np x.h.nn x.h.nc) ∧ w'.cell? ⟨bx, ox + i * 6 + 5, none⟩ = some (.slice x.h.kp x.h.kn x.h.kc) ∧ w'.cell? ⟨bY, oY + i * 6, none⟩ = some (.int .i64 y.h.k) ∧ w'.cell? ⟨bY, oY + i * 6 + 1, none⟩ = some (.int .i64 y.h.m) ∧ w'.cell? ⟨bY, oY + i * 6 + 2, none⟩ = some (.int .i64 y.h.f) ∧ w'.cell? ⟨bY, oY + i * 6 + 3, none⟩ = some (.int .i64 y.h.t) ∧ w'.cell? ⟨bY, oY + i * 6 + 4, none⟩ = some (.slice y.h.np y.h.nn y.h.nc) ∧ w'.cell? ⟨bY, oY + i * 6 + 5, none⟩ = some (.slice y.h.kp y.h.kn y.h.kc)) (go_keep) ((first | (go_at_call 19; refine HX.out.mono ?_; rintro e w4 ⟨rfl, hb4⟩; have z0 := (hb4.cell (p := ⟨w.heap.size, _, none⟩) hwn).trans t5; have z1 := (hb4.cell (p := ⟨w.heap.size + 1, _, none⟩) hwn1).trans u5; have z2 := (hb4.cell (p := ⟨bx, _, none⟩) hbx).trans x0; have z3 := (hb4.cell (p := ⟨bx, _, none⟩) hbx).trans x1; have z4 := (hb4.cell (p := ⟨bx, _, none⟩) hbx).trans x2; have z5 := (hb4.cell (p := ⟨bx, _, none⟩) hbx).trans x3; have z6 := (hb4.cell (p := ⟨bx, _, none⟩) hbx).trans x4; have z7 := (hb4.cell (p := ⟨bx, _, none⟩) hbx).trans x5; have z8 := (hb4.cell (p := ⟨bY, _, none⟩) hbY).trans y0; have z9 := (hb4.cell (p := ⟨bY, _, none⟩) hbY).trans y1; have z10 := (hb4.cell (p := ⟨bY, _, none⟩) hbY).trans y2; have z11 := (hb4.cell (p := ⟨bY, _, none⟩) hbY).trans y3; have z12 := (hb4.cell (p := ⟨bY, _, none⟩) hbY).trans y4; have z13 := (hb4.cell (p := ⟨bY, _, none⟩) hbY).trans y5)))
                      have hb4' : Below wr.heap.size wr w4 := ((Below.refl _ _).drew).trans hb4
                      have HB4 := Lib.hid (HBE.out.trans (hb4'.mono hz))
                      clear hb4 hb4'
                      go_wp2_with fail
                      go_roundw
                      case rel => exact ⟨i + 1, by omega, by go_num, HD2, HB4.out⟩
                      case measure => simp [intOf]; omega
                  · have hq : q = true := by rw [HQ.out, List.drop_eq_nil_of_le (by omega)]; simp only [sames]
                    subst hq
                    have HBE := Lib.hid (HB.out.trans ((HB3.out.trans (hbe.mono hz3)).mono HB.out.size))
                    clear hbe
                    go_wp2_with fail
                    go_ret
                    exact ⟨by first | trivial | rfl, HBE.out⟩
              · have hq : q = false := by rw [HR.out, hqi]; simp [h5]
                subst hq
                have hlj : ((ks.length : Int) == (js.length : Int)) = false := by rw [beq_eq_false_iff_ne]; omega
                go_enter Try.func19, Try.ntmps19
                go_wp2_with fail
                rw [← E2.out]
                refine HI1.out.mono ?_
                rintro e w3 ⟨rfl, hb3⟩
                have HB3 := Lib.hid (HB.out.trans (hb3.mono HB.out.size))
                have hz1 := S1.out
                have hz2 := S2.out
                obtain ⟨_, _, _, _, _, a5⟩ := (HC1.out.step (by omega) hb3).box
                obtain ⟨_, _, _, _, _, d5⟩ := (HC2.out.step (by omega) hb3).box
                rw [hz1] at d5
                clear hb3
                go_wp2_with fail
                go_ret
                exact ⟨by first | trivial | rfl, HB3.out⟩
          · subst h1 h2 h3
            have hq : q = false := by rw [HR.out]; simp [h4]
            subst hq
            have hne : (ht == gt) = false := by rw [beq_eq_false_iff_ne]; exact h4
            go_enter Try.func19, Try.ntmps19
            go_wp2_with fail
            go_ret
            exact ⟨by first | trivial | rfl, by have := HB.out; rw [E2.out] at this; exact this⟩
        · subst h1 h2
          have hq : q = false := by rw [HR.out]; simp [h3]
          subst hq
          have hne : (hf == gf) = false := by rw [beq_eq_false_iff_ne]; exact h3
          go_enter Try.func19, Try.ntmps19
          go_wp2_with fail
          go_ret
          exact ⟨by first | trivial | rfl, by have := HB.out; rw [E2.out] at this; exact this⟩
      · subst h1
        have hq : q = false := by rw [HR.out]; simp [h2]
        subst hq
        have hne : (hm == gm) = false := by rw [beq_eq_false_iff_ne]; exact h2
        go_enter Try.func19, Try.ntmps19
        go_wp2_with fail
        go_ret
        exact ⟨by first | trivial | rfl, by have := HB.out; rw [E2.out] at this; exact this⟩
    · have hq : q = false := by rw [HR.out]; simp [h1]
      subst hq
      have hne : (hk == gk) = false := by rw [beq_eq_false_iff_ne]; exact h1
      go_enter Try.func19, Try.ntmps19
      go_wp2_with fail
      go_ret
      exact ⟨by first | trivial | rfl, by have := HB.out; rw [E2.out] at this; exact this⟩
end Go.Proofs.Ytcijjeflojaocaa
