/-
  The program's Same: kids by slices.EqualFunc with Same itself.
-/
import Derived.Test.YtcijjeflojaocaaSame
namespace Go.Proofs.Ytcijjeflojaocaa
open Go.RowKit
set_option linter.unusedVariables false
set_option linter.unusedSimpArgs false

set_option maxHeartbeats 4000000 in
theorem equalFunc_any (ks js : List Br) (IH : ∀ x ∈ ks, ∀ (y : Br) (w : World), x.Lies w → y.Lies w → Calls Try.prog 28 #[x.h.val, y.h.val] w fun e w' => e = .returned (.bool (x.same y)) ∧ Below w.heap.size w w')
    (kp kp' : Option Addr) (kc kc' : Nat) (w : World) (hk : KidsIn w kp ks.length kc ks) (hk' : KidsIn w kp' js.length kc' js) (hl : ∀ x ∈ ks, x.Lies w) (hl' : ∀ x ∈ js, x.Lies w) (hlen : ks.length ≤ 1000) :
    Calls Try.prog 39 #[.slice kp ks.length kc, .slice kp' js.length kc', .func (.func 28) #[] #[]] w fun e w' => e = .returned (.bool (decide (ks.length = js.length) && sames ks js)) ∧ Below w.heap.size w w' := by
  obtain ⟨q, hq⟩ : ∃ q, q = (decide (ks.length = js.length) && sames ks js) := ⟨_, rfl⟩
  rw [← hq]
  have HQ := Lib.hid hq
  have HK := Lib.hid hk
  have HK' := Lib.hid hk'
  have HL := Lib.hid hl
  have HL' := Lib.hid hl'
  have HI := Lib.hid IH
  clear hq hk hk' hl hl' IH
  by_cases h5 : ks.length = js.length
  · have HR : Hid (q = sames (ks.drop 0) (js.drop 0)) := Lib.hid (by rw [HQ.out]; simp [h5])
    have hlj2 : ((ks.length : Int) != (js.length : Int)) = false := by simp [h5]
    have H5 := Lib.hid h5
    clear h5 HQ
    go_enter Try.func39, Try.ntmps39
    go_wp2_with fail
    go_loopw [17] (fun iv wr => ∃ i : Nat, i ≤ ks.length ∧ iv = .int .i64 i ∧ Hid (q = sames (ks.drop i) (js.drop i)) ∧ Below w.heap.size w wr) (fun iv _ => ks.length - (intOf iv).toNat)
    case atStart => exact ⟨0, by omega, rfl, HR, Below.refl _ _⟩
    case round =>
      obtain ⟨i, hi, rfl, HN, hbe⟩ := hrel
      have hz := hbe.size
      by_cases hlt : i < ks.length
      · have hlt' : i < js.length := by rw [← H5.out]; exact hlt
        obtain ⟨bx, ox, rfl, _, hbx, hatx⟩ := (HK.out.step hbe).2.resolve_left (by omega)
        obtain ⟨bY, oY, rfl, _, hbY, hatY⟩ := (HK'.out.step hbe).2.resolve_left (by omega)
        obtain ⟨x0, x1, x2, x3, x4, x5⟩ := hatx i hlt
        obtain ⟨y0, y1, y2, y3, y4, y5⟩ := hatY i hlt'
        have hxl := (HL.out _ (List.getElem_mem hlt)).step _ hbe
        have hyl := (HL'.out _ (List.getElem_mem hlt')).step _ hbe
        have HI2 := Lib.hid (HI.out ks[i] (List.getElem_mem hlt) js[i])
        have HD : Hid (q = (ks[i].same js[i] && sames (ks.drop (i + 1)) (js.drop (i + 1)))) := Lib.hid (by
          rw [HN.out, List.drop_eq_getElem_cons hlt, List.drop_eq_getElem_cons hlt']; simp only [sames])
        have hr1 : (0 : Int) ≤ (i : Int) := by omega
        have hr2 : (i : Int) < (ks.length : Int) := by omega
        have hr3 : (i : Int) < (js.length : Int) := by omega
        have HB := Lib.hid hbe
        have HXL : Hid (∀ W, Below wr.heap.size wr W → ks[i].Lies W ∧ js[i].Lies W) := Lib.hid fun W hW => ⟨hxl.step _ hW, hyl.step _ hW⟩
        clear hatx hatY hxl hyl hbe HN
        generalize ks[i] = x at *
        generalize js[i] = y at *
        have hb2 : Below wr.heap.size wr ((wr.alloc x.h.obj).alloc y.h.obj) := ((Below.refl _ _).alloc (Nat.le_refl _) _).alloc (by simp) _
        have HB2 := Lib.hid hb2
        have HX := Lib.hid (HI2.out _ (HXL.out _ hb2).1 (HXL.out _ hb2).2)
        clear hb2
        cases hxy : x.same y
        · have hqf : q = false := by rw [HD.out, hxy]; rfl
          subst hqf
          rw [hxy] at HX
          clear HD hxy
          go_wp2_with fail
          refine HX.out.mono ?_
          rintro e w4 ⟨rfl, hb4⟩
          have HB4 := Lib.hid (HB.out.trans ((HB2.out.trans (hb4.mono HB2.out.size)).mono hz))
          clear hb4
          go_wp2_with fail
          go_ret
          exact ⟨by first | trivial | rfl, HB4.out⟩
        · have HD2 : Hid (q = sames (ks.drop (i + 1)) (js.drop (i + 1))) := Lib.hid (by rw [HD.out, hxy]; rfl)
          rw [hxy] at HX
          clear HD hxy
          go_wp2_with fail
          refine HX.out.mono ?_
          rintro e w4 ⟨rfl, hb4⟩
          have HB4 := Lib.hid (HB.out.trans ((HB2.out.trans (hb4.mono HB2.out.size)).mono hz))
          clear hb4
          go_wp2_with fail
          go_roundw
          case rel => exact ⟨i + 1, by omega, by go_num, HD2, HB4.out⟩
          case measure => simp [intOf]; omega
      · have hqt : q = true := by rw [HN.out, List.drop_eq_nil_of_le (by omega)]; simp only [sames]
        subst hqt
        have HB := Lib.hid hbe
        clear hbe
        go_wp2_with fail
        go_ret
        exact ⟨by first | trivial | rfl, HB.out⟩
  · have hqf : q = false := by rw [HQ.out]; simp [h5]
    subst hqf
    have hlj2 : ((ks.length : Int) != (js.length : Int)) = true := by rw [bne_iff_ne]; omega
    go_enter Try.func39, Try.ntmps39
    go_wp2_with fail
    go_ret
    exact ⟨by first | trivial | rfl, Below.refl _ _⟩

set_option maxHeartbeats 4000000 in
theorem same28_any (a : Br) : ∀ (b : Br) (w : World), a.Lies w → b.Lies w → a.Fits → a.size ≤ 1000 →
    Calls Try.prog 28 #[a.h.val, b.h.val] w fun e w' => e = .returned (.bool (a.same b)) ∧ Below w.heap.size w w' := by
  induction a using Br.ind with
  | hP h ks ih =>
    intro b w hl hl' hfit hsz
    obtain ⟨w1, e1, c1, l1, b1, s1⟩ := boxed w _ hl
    obtain ⟨w2, e2, c2, l2, b2, s2⟩ := boxed w1 _ (hl'.step _ b1)
    have c1 := c1.step (by omega) b2
    have l1 := l1.step _ b2
    have b12 := b1.trans (b2.mono (by omega))
    obtain ⟨hnames, hkids, hall⟩ := (lies_iff _ _).1 l1
    obtain ⟨hnames', hkids', hall'⟩ := (lies_iff _ _).1 l2
    simp only [Br.Fits, fitsAll_iff] at hfit
    simp only [Br.h, Br.ks, Br.size] at hnames hkids hall c1 hsz e1 e2 ⊢
    have HR := Lib.hid (same_eq (.mk h ks) b)
    simp only [Br.h, Br.ks] at HR
    obtain ⟨g, js⟩ := b
    simp only [Br.h, Br.ks] at hnames' hkids' hall' c2 e2 HR ⊢
    obtain ⟨hk, hm, hf, ht, np, nn, nc, ns, kp, kn, kc⟩ := h
    obtain ⟨gk, gm, gf, gt, np', nn', nc', ns', kp', kn', kc'⟩ := g
    obtain ⟨hfit1, hfit2⟩ := hfit
    have hkn : kn = ks.length := hkids.1
    have hkn' : kn' = js.length := hkids'.1
    subst hkn hkn'
    have hlen := sizes_len ks
    simp only at hfit1 hnames hnames' hkids hkids' HR
    have HI1 := Lib.hid (equal_any np nn nc ns np' nn' nc' ns' w2 hnames hnames' (by omega))
    have HK := Lib.hid hkids
    have HK' := Lib.hid hkids'
    have HL := Lib.hid hall
    have HL' := Lib.hid hall'
    have HIK : Hid (∀ x ∈ ks, ∀ (y : Br) (w : World), x.Lies w → y.Lies w → Calls Try.prog 28 #[x.h.val, y.h.val] w fun e w' => e = .returned (.bool (x.same y)) ∧ Below w.heap.size w w') := Lib.hid fun x hx y w h1 h2 => ih x hx y w h1 h2 (hfit2 x hx) (by have := size_le_sizes hx; omega)
    have HB := Lib.hid b12
    have HC1 := Lib.hid c1
    have HC2 := Lib.hid c2
    have S1 := Lib.hid s1
    have S2 := Lib.hid s2
    have E2 := Lib.hid e2
    have hl1000 : ks.length ≤ 1000 := by omega
    subst e1
    generalize (Br.mk ⟨hk, hm, hf, ht, np, nn, nc, ns, kp, ks.length, kc⟩ ks).same (Br.mk ⟨gk, gm, gf, gt, np', nn', nc', ns', kp', js.length, kc'⟩ js) = q at *
    generalize sameI ns ns' = qi at *
    clear hnames hnames' hkids hkids' hall hall' ih hfit2 b12 c1 c2 l1 l2 b1 b2 hl hl' hfit1 s1 s2 e2
    by_cases h1 : hk = gk
    · by_cases h2 : hm = gm
      · by_cases h3 : hf = gf
        · by_cases h4 : ht = gt
          · subst h1 h2 h3 h4
            simp only [decide_true, Bool.true_and] at HR
            cases hqi : qi
            · have hq : q = false := by rw [HR.out, hqi]; rfl
              subst hq
              rw [hqi] at HI1
              go_enter Try.func28, Try.ntmps28
              go_wp2_with fail
              rw [← E2.out]
              refine HI1.out.mono ?_
              rintro e w3 ⟨rfl, hb3⟩
              have HB3 := Lib.hid (HB.out.trans (hb3.mono HB.out.size))
              clear hb3
              go_wp2_with fail
              go_ret
              exact ⟨by first | trivial | rfl, HB3.out⟩
            · rw [hqi] at HI1
              have HR2 : Hid (q = (decide (ks.length = js.length) && sames ks js)) := Lib.hid (by rw [HR.out, hqi]; rfl)
              go_enter Try.func28, Try.ntmps28
              go_wp2_with fail
              rw [← E2.out]
              refine HI1.out.mono ?_
              rintro e w3 ⟨rfl, hb3⟩
              have HB3 := Lib.hid (HB.out.trans (hb3.mono HB.out.size))
              have hz1 := S1.out
              have hz2 := S2.out
              obtain ⟨_, _, _, _, _, a5⟩ := (HC1.out.step (by omega) hb3).box
              obtain ⟨_, _, _, _, _, d5⟩ := (HC2.out.step (by omega) hb3).box
              rw [hz1] at d5
              have HX := Lib.hid (equalFunc_any ks js HIK.out kp kp' kc kc' w3 (HK.out.step hb3) (HK'.out.step hb3) (fun x hx => (HL.out x hx).step _ hb3) (fun x hx => (HL'.out x hx).step _ hb3) hl1000)
              rw [← HR2.out] at HX
              clear hb3
              go_wp2_with fail
              refine HX.out.mono ?_
              rintro e w4 ⟨rfl, hb4⟩
              have HB4 := Lib.hid (HB3.out.trans (hb4.mono HB3.out.size))
              clear hb4
              go_wp2_with fail
              go_ret
              exact ⟨by first | trivial | rfl, HB4.out⟩
          · subst h1 h2 h3
            have hqf : q = false := by rw [HR.out]; simp [h4]
            subst hqf
            have hne : (ht == gt) = false := by rw [beq_eq_false_iff_ne]; exact h4
            go_enter Try.func28, Try.ntmps28
            go_wp2_with fail
            go_ret
            exact ⟨by first | trivial | rfl, by have := HB.out; rw [E2.out] at this; exact this⟩
        · subst h1 h2
          have hqf : q = false := by rw [HR.out]; simp [h3]
          subst hqf
          have hne : (hf == gf) = false := by rw [beq_eq_false_iff_ne]; exact h3
          go_enter Try.func28, Try.ntmps28
          go_wp2_with fail
          go_ret
          exact ⟨by first | trivial | rfl, by have := HB.out; rw [E2.out] at this; exact this⟩
      · subst h1
        have hqf : q = false := by rw [HR.out]; simp [h2]
        subst hqf
        have hne : (hm == gm) = false := by rw [beq_eq_false_iff_ne]; exact h2
        go_enter Try.func28, Try.ntmps28
        go_wp2_with fail
        go_ret
        exact ⟨by first | trivial | rfl, by have := HB.out; rw [E2.out] at this; exact this⟩
    · skip
      have hqf : q = false := by rw [HR.out]; simp [h1]
      subst hqf
      have hne : (hk == gk) = false := by rw [beq_eq_false_iff_ne]; exact h1
      go_enter Try.func28, Try.ntmps28
      go_wp2_with fail
      go_ret
      exact ⟨by first | trivial | rfl, by have := HB.out; rw [E2.out] at this; exact this⟩

mutual
theorem same_refl : (b : Br) → b.same b = true
  | .mk h ks => by simp [Br.same, Br.h, Br.ks, sameI, sames_refl ks]
theorem sames_refl : (ks : List Br) → sames ks ks = true
  | [] => rfl
  | x :: r => by simp [sames, same_refl x, sames_refl r]
end
end Go.Proofs.Ytcijjeflojaocaa
