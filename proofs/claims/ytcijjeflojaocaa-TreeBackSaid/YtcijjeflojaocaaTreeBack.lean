/-
  TreeBack: the walk.
-/
import Derived.Test.YtcijjeflojaocaaRefRight
import Derived.Test.YtcijjeflojaocaaBackT
import Derived.Test.YtcijjeflojaocaaTreeWithin
namespace Go.Proofs.Ytcijjeflojaocaa
open Go.RowKit
set_option linter.unusedVariables false
set_option linter.unusedSimpArgs false

theorem clone_own (p : Option Addr) (n c : Nat) (l : List Int) (w : World) (h : In mkI w p n c l) (hn : n * 8 ≤ 140737488355328) :
    Calls Try.prog 32 #[.slice p n c] w fun e w' => ∃ p' c', e = .returned (.slice p' n c') ∧ In mkI w' p' n c' l ∧ (n ≠ 0 → ∃ g, p' = some ⟨g, 0, none⟩ ∧ w.heap.size ≤ g ∧ n ≤ c' ∧ w'.frozen? ⟨g, 0, none⟩ = false) ∧ Below w.heap.size w w' := by
  obtain ⟨i0, hi0, hy0, hy1, hy2⟩ := info_parts info3
  have HLN := Lib.hid h.1
  have q22 : ∀ (w : World) (a : Option Addr) (n c n' c' : Nat), (binOp .eql 22 (.slice a n c) (.slice none n' c')).run Try.prog w = .ok (.bool a.isNone) w := fun w a n c n' c' => Lib.run_eql_slice_nil w _ _ a n c n' c' Try.underlying22
  cases p with
  | none =>
    obtain ⟨hx, rfl | ⟨b, off, hp, _⟩⟩ := h
    · have hnil : l = [] := List.length_eq_zero_iff.1 HLN.out.symm
      subst hnil
      clear HLN hn hx
      go_enter Try.func32, Try.ntmps32
      go_wp2
      go_ret
      exact ⟨none, 0, rfl, In.nil _ _ _ _, fun h => absurd rfl h, Below.refl _ _⟩
    · cases hp
  | some a =>
    have hb1 : Below w.heap.size w (w.alloc (.cells #[] 3)) := (Below.refl _ _).alloc (Nat.le_refl _) _
    have HI := Lib.hid (h.step hb1)
    have HO : Hid ((w.alloc (.cells #[] 3)).ownsRow w.heap.size 3 1 (.slice (some ⟨w.heap.size, 0, none⟩) 0 0) 0 []) := Lib.hid (own_lit (heap_alloc_new w _) (Nat.le_refl _) rfl (by unfold maxLen; omega))
    have HB := Lib.hid hb1
    have hs : (w.alloc (.cells #[] 3)).heap.size = w.heap.size + 1 := by simp
    have HS := Lib.hid hs
    clear h hb1 hs
    go_enter Try.func32, Try.ntmps32
    go_wp2_with (at_builtin; refine wpList_append_in _ rfl _ _ 22 rfl w.heap.size 3 i0 _ 8 Try.underlying22 hi0 hy0 hy1 hy2 rfl _ 0 _ rfl HO.out mkI oneI _ n c l rfl HI.out (by unfold maxLen; omega) (by omega) (by rw [HS.out]; omega) ?_)
    intro v1 w1 hown hgrow
    obtain ⟨p', c', rfl, hin⟩ := in_of_row (mk := mkI) (l := l) (n := 0 + n) (by simpa using hown) (by rw [← HLN.out]; omega)
    have hfar : n ≠ 0 → ∃ g, p' = some ⟨g, 0, none⟩ ∧ w.heap.size ≤ g ∧ n ≤ c' ∧ w1.frozen? ⟨g, 0, none⟩ = false := fun hne => by
      obtain ⟨g, c2, hv, hg, _, hc2, _⟩ := own_pos hown (by omega)
      injection hv with h1 _ h3
      subst h1 h3
      have hz : 0 + n = n := by omega
      rw [hz] at hown
      exact ⟨g, rfl, hg, by omega, own_frozen hown 0⟩
    have HF := Lib.hid hfar
    have hin' : In mkI w1 p' n c' l := by simpa using hin
    have HIN := Lib.hid hin'
    have HB1 := Lib.hid (HB.out.grown hgrow (by rw [HS.out]; omega) (own_below HO.out (Nat.le_refl _)))
    have hz : 0 + n = n := by omega
    clear hown hgrow hin hin' hfar
    rw [hz]
    go_wp2_with fail
    go_ret
    exact ⟨p', c', rfl, HIN.out, HF.out, HB1.out⟩
theorem names_own {T g c : Nat} {l : List Kn} (k : Nat) (w : World) (h : Arena w T g c l) (hk : k < l.length) (hn : l[k].ns.length * 8 ≤ 140737488355328) :
    Calls Try.prog 14 #[.pointer (some ⟨T, 0, none⟩), .int .i64 k] w fun e w' => ∃ p' c', e = .returned (.slice p' l[k].ns.length c') ∧ In mkI w' p' l[k].ns.length c' l[k].ns ∧ (l[k].ns.length ≠ 0 → ∃ g, p' = some ⟨g, 0, none⟩ ∧ w.heap.size ≤ g ∧ l[k].ns.length ≤ c' ∧ w'.frozen? ⟨g, 0, none⟩ = false) ∧ Below w.heap.size w w' := by
  have H := Lib.hid (has_yes k w h hk)
  obtain ⟨h1, _, _, _, _, h6⟩ := h
  obtain ⟨p, n, cc, ⟨a0, a1, a2, a3, a4, a5, a6, a7, a8⟩, hin⟩ := h6 k hk
  have hnl := hin.1
  subst hnl
  have HC := Lib.hid (clone_own p _ cc _ w hin hn)
  have hk1 : (0 : Int) ≤ (k : Int) := by omega
  have hk2 : (k : Int) < (l.length : Int) := by omega
  clear h6 hin hn
  generalize l[k] = x at *
  go_enter Try.func14, Try.ntmps14
  go_wp2_with fail
  refine H.out.mono ?_
  rintro e w1 ⟨rfl, rfl⟩
  go_wp2_with fail
  refine HC.out.mono ?_
  rintro e w1 ⟨p', c', rfl, r⟩
  have R := Lib.hid r
  clear r
  go_wp2_with fail
  go_ret
  exact ⟨p', c', rfl, R.out⟩

set_option maxHeartbeats 16000000 in
set_option maxRecDepth 20000 in
theorem treeBack_any (a b : Br) (w : World) (hla : a.Lies w) (hlb : b.Lies w) : Calls Try.prog 5 #[a.h.val, b.h.val] w fun e w' => e = .returned (.bool true) ∧ Below w.heap.size w w' := by
  obtain ⟨w1, e1, c1, l1, b1, s1⟩ := boxed w a hla
  obtain ⟨w2, e2, c2, l2, b2, s2⟩ := boxed w1 b (hlb.step _ b1)
  have hLA : Hid (∀ W, Below w2.heap.size w2 W → a.Lies W) := Lib.hid fun W hW => (l1.step _ b2).step _ hW
  have hLB : Hid (∀ W, Below w2.heap.size w2 W → b.Lies W) := Lib.hid fun W hW => l2.step _ hW
  have hB2 : Below w.heap.size w w2 := b1.trans (b2.mono b1.size)
  have HCA : Hid (∀ W, Below w2.heap.size w2 W → W.cell? ⟨w.heap.size, 0, none⟩ = some (.int .i64 a.h.k) ∧ W.cell? ⟨w.heap.size, 1, none⟩ = some (.int .i64 a.h.m) ∧ W.cell? ⟨w.heap.size, 2, none⟩ = some (.int .i64 a.h.f) ∧ W.cell? ⟨w.heap.size, 3, none⟩ = some (.int .i64 a.h.t) ∧ W.cell? ⟨w.heap.size, 4, none⟩ = some (.slice a.h.np a.h.nn a.h.nc) ∧ W.cell? ⟨w.heap.size, 5, none⟩ = some (.slice a.h.kp a.h.kn a.h.kc)) := Lib.hid fun W hW => ((c1.step (by omega) b2).step (by omega) hW).box
  have HCB : Hid (∀ W, Below w2.heap.size w2 W → W.cell? ⟨w.heap.size + 1, 0, none⟩ = some (.int .i64 b.h.k) ∧ W.cell? ⟨w.heap.size + 1, 1, none⟩ = some (.int .i64 b.h.m) ∧ W.cell? ⟨w.heap.size + 1, 2, none⟩ = some (.int .i64 b.h.f) ∧ W.cell? ⟨w.heap.size + 1, 3, none⟩ = some (.int .i64 b.h.t) ∧ W.cell? ⟨w.heap.size + 1, 4, none⟩ = some (.slice b.h.np b.h.nn b.h.nc) ∧ W.cell? ⟨w.heap.size + 1, 5, none⟩ = some (.slice b.h.kp b.h.kn b.h.kc)) := Lib.hid fun W hW => by rw [← s1]; exact (c2.step (by omega) hW).box
  have HBW := Lib.hid hB2
  have HFA := Lib.hid (fun W hW => few_any a W (hLA.out W hW))
  have HFB := Lib.hid (fun W hW => few_any b W (hLB.out W hW))
  have HAL : Hid (∀ W, Calls Try.prog 9 #[] W fun e w' => e = .returned (.bool true) ∧ Below W.heap.size W w') := Lib.hid fun W => alive_any W
  have E1 := Lib.hid e1
  have E2 := Lib.hid e2
  have S1 := Lib.hid s1
  clear c1 c2 l1 l2 b1 b2 s1 s2 hB2 hla hlb e1 e2
  obtain ⟨qa0, qa1, qa2, qa3, qa4, qa5⟩ := HCA.out w2 (Below.refl _ _)
  cases hfa : few a
  · rw [hfa] at HFA
    have e1 := E1.out
    have e2 := E2.out
    have e1 := E1.out
    have e2 := E2.out
    generalize a.h = ah at *
    generalize b.h = bh at *
    go_enter Try.func5, Try.ntmps5
    go_wp2_with fail
    rw [← e1, ← e2]
    clear e1 e2
    refine (HFA.out w2 (Below.refl _ _)).mono ?_
    rintro e w3 ⟨rfl, hb3⟩
    have HB3 := Lib.hid hb3
    clear hb3
    go_wp2_with fail
    refine (HAL.out w3).mono ?_
    rintro e w4 ⟨rfl, hb4⟩
    have HE := Lib.hid (HBW.out.trans ((HB3.out.trans (hb4.mono HB3.out.size)).mono HBW.out.size))
    clear hb4
    go_wp2_with fail
    go_ret
    exact ⟨by first | trivial | rfl, HE.out⟩
  · rw [hfa] at HFA
    cases hfb : few b
    · rw [hfb] at HFB
      have e1 := E1.out
      have e2 := E2.out
      have HQB := HCB
      generalize a.h = ah at *
      generalize b.h = bh at *
      go_enter Try.func5, Try.ntmps5
      go_wp2_with fail
      rw [← e1, ← e2]
      clear e1 e2
      refine (HFA.out w2 (Below.refl _ _)).mono ?_
      rintro e w3 ⟨rfl, hb3⟩
      obtain ⟨qb0, qb1, qb2, qb3, qb4, qb5⟩ := HQB.out w3 hb3
      have HB3 := Lib.hid hb3
      clear hb3
      go_wp2_with fail
      refine (HFB.out w3 HB3.out).mono ?_
      rintro e w4 ⟨rfl, hb4⟩
      have HB4 := Lib.hid (HB3.out.trans (hb4.mono HB3.out.size))
      clear hb4
      go_wp2_with fail
      refine (HAL.out w4).mono ?_
      rintro e w5 ⟨rfl, hb5⟩
      have HE := Lib.hid (HBW.out.trans ((HB4.out.trans (hb5.mono HB4.out.size)).mono HBW.out.size))
      clear hb5
      go_wp2_with fail
      go_ret
      exact ⟨by first | trivial | rfl, HE.out⟩
    · rw [hfb] at HFB
      obtain ⟨hsa, hna⟩ := fewB hfa
      obtain ⟨hsb, hnb⟩ := fewB hfb
      have hfita := fits_of a hna
      have hfitb := fits_of b hnb
      have HM := Lib.hid (fun W (hW : Below w2.heap.size w2 W) => make_any a W (hLA.out W hW) hfita (by omega))
      have HRO := Lib.hid (fun W (hW : Below w2.heap.size w2 W) => refRows_any a W (hLA.out W hW) (by omega))
      have hlen : a.knots.length = a.size := knots_length a
      have hal : a.all.length = a.size := all_length a
      have HFITA := Lib.hid hfita
      have HLEN := Lib.hid hlen
      have HALL := Lib.hid hal
      have e1 := E1.out
      have e2 := E2.out
      have HCA2 := HCA
      have HCB2 := HCB
      generalize hah : a.h = ah at *
      generalize hbh : b.h = bh at *
      have HAH := Lib.hid hah
      have HBH := Lib.hid hbh
      clear hfa hfb hfita hlen hal hah hbh
      go_enter Try.func5, Try.ntmps5
      go_wp2_with fail
      rw [← e1, ← e2]
      clear e1 e2
      refine (HFA.out w2 (Below.refl _ _)).mono ?_
      rintro e w3 ⟨rfl, hb3⟩
      obtain ⟨qb0, qb1, qb2, qb3, qb4, qb5⟩ := HCB2.out w3 hb3
      have HB3 := Lib.hid hb3
      clear hb3
      go_wp2_with fail
      refine (HFB.out w3 HB3.out).mono ?_
      rintro e w4 ⟨rfl, hb4⟩
      have hb4' := HB3.out.trans (hb4.mono HB3.out.size)
      obtain ⟨qa0, qa1, qa2, qa3, qa4, qa5⟩ := HCA2.out w4 hb4'
      have HB4 := Lib.hid hb4'
      clear hb4 hb4'
      go_wp2_with fail
      refine (HM.out w4 HB4.out).mono ?_
      rintro e w5 ⟨T, g, c, rfl, ha5, hb5⟩
      have hb5' := HB4.out.trans (hb5.mono HB4.out.size)
      obtain ⟨qa0, qa1, qa2, qa3, qa4, qa5⟩ := HCA2.out w5 hb5'
      have HB5 := Lib.hid hb5'
      have HA5 := Lib.hid ha5
      clear hb5 hb5' ha5
      go_wp2_with fail
      refine (HRO.out w5 HB5.out).mono ?_
      rintro e w6 ⟨v6, rfl, hown6, hb6⟩
      obtain ⟨gr, cr, rfl, hcr, hgr, hrows⟩ := rowsAt_of (l := a.all) (by rw [HALL.out]; exact hown6) (by rw [HALL.out]; exact a.size_pos)
      have HROWS := Lib.hid hrows
      have HB6 := Lib.hid (HB5.out.trans (hb6.mono HB5.out.size))
      have HA6 := Lib.hid (HA5.out.step hb6)
      have hn6 : a.all.length ≤ 150 := by rw [HALL.out]; exact hsa
      clear hown6 hb6 hrows HM HRO HFA HFB
      go_wp2_with fail
      go_loopw [24] (fun iv wr => ∃ k : Nat, k ≤ a.all.length ∧ iv = .int .i64 k ∧ Below w6.heap.size w6 wr) (fun iv _ => a.all.length - (intOf iv).toNat)
      case atStart => exact ⟨0, by omega, rfl, Below.refl _ _⟩
      case round =>
        obtain ⟨k, hk0, rfl, hbe⟩ := hrel
        have hz := hbe.size
        have HBE := Lib.hid hbe
        by_cases hlt : k < a.all.length
        · obtain ⟨en, hen⟩ : ∃ en, a.all[k]? = some en := ⟨_, List.getElem?_eq_getElem hlt⟩
          have hge : a.all[k] = en := by
            have := List.getElem?_eq_getElem hlt
            rw [hen] at this
            exact (Option.some.inj this).symm
          have hkk : k < a.knots.length := by rw [HLEN.out, ← HALL.out]; exact hlt
          have hget := knots_get hen hkk
          have hfx := fits_flat a HFITA.out _ _ _ _ _ en (List.mem_of_getElem? hen)
          have hns : en.b.h.ns.length * 8 ≤ 140737488355328 := by
            have hl := (lies_iff _ _).1 (lies_flat a (hLA.out w6 HB6.out) _ _ _ _ _ en (List.mem_of_getElem? hen))
            have heta := en.b.eta
            rw [← heta] at hfx
            simp only [Br.Fits] at hfx
            rw [← hl.1.1]; exact hfx.1
          have HNM : Hid (∀ W, Below w6.heap.size w6 W → Calls Try.prog 14 #[.pointer (some ⟨T, 0, none⟩), .int .i64 k] W fun e w' => ∃ p' c', e = .returned (.slice p' en.b.h.ns.length c') ∧ In mkI w' p' en.b.h.ns.length c' en.b.h.ns ∧ (en.b.h.ns.length ≠ 0 → ∃ g, p' = some ⟨g, 0, none⟩ ∧ W.heap.size ≤ g ∧ en.b.h.ns.length ≤ c' ∧ w'.frozen? ⟨g, 0, none⟩ = false) ∧ Below W.heap.size W w') := Lib.hid fun W hW => by
            have := names_own k W (HA6.out.step hW) hkk
            rw [hget] at this
            exact this hns
          have hszx : en.b.size ≤ 1000 := by
            have := end_le hen
            rw [HALL.out] at hn6
            omega
          have HBR : Hid (∀ W, Below w6.heap.size w6 W → Calls Try.prog 20 #[.pointer (some ⟨T, 0, none⟩), .int .i64 k] W fun e w' => ∃ y : Br, e = .returned y.h.val ∧ y.Lies w' ∧ y.same en.b = true ∧ y.Fits ∧ Below W.heap.size W w') := Lib.hid fun W hW => by
            refine (branch_yes a (by omega) en.b k W en hen rfl (HA6.out.step hW) hfx (lens_of_lies _ (lies_flat a (hLA.out w6 HB6.out) _ _ _ _ _ en (List.mem_of_getElem? hen)))).mono ?_
            rintro e w' ⟨y, h1, h2, _, h4, h5, h6⟩
            exact ⟨y, h1, h2, h4, h5, h6⟩
          have HSM : Hid (∀ (y : Br) W, y.Lies W → y.same en.b = true → y.Fits → Below w6.heap.size w6 W → Calls Try.prog 19 #[y.h.val, en.b.h.val] W fun e w' => e = .returned (.bool true) ∧ Below W.heap.size W w') := Lib.hid fun y W h1 h2 h3 h4 => by
            have := refSame_any y en.b W h1 (lies_flat a (hLA.out W (HB6.out.trans (h4.mono HB6.out.size))) _ _ _ _ _ en (List.mem_of_getElem? hen)) h3 (by rw [same_size y en.b h2]; exact hszx)
            rw [h2] at this
            exact this
          have HRK : Hid (∀ W, Below w6.heap.size w6 W → W.cell? ⟨gr, k * 8, none⟩ = some (.int .i64 en.b.h.k) ∧ W.cell? ⟨gr, k * 8 + 1, none⟩ = some (.int .i64 en.b.h.m) ∧ W.cell? ⟨gr, k * 8 + 2, none⟩ = some (.int .i64 en.b.h.f) ∧ W.cell? ⟨gr, k * 8 + 3, none⟩ = some (.int .i64 en.b.h.t) ∧ W.cell? ⟨gr, k * 8 + 4, none⟩ = some (.slice en.b.h.np en.b.h.nn en.b.h.nc) ∧ W.cell? ⟨gr, k * 8 + 5, none⟩ = some (.slice en.b.h.kp en.b.h.kn en.b.h.kc)) := Lib.hid fun W hW => by
            have := HROWS.out.step hgr hW k hlt
            rw [hge] at this
            exact ⟨this.1, this.2.1, this.2.2.1, this.2.2.2.1, this.2.2.2.2.1, this.2.2.2.2.2.1⟩
          have hr1 : (0 : Int) ≤ (k : Int) := by omega
          have hr2 : (k : Int) < (a.all.length : Int) := by omega
          clear hbe hget hns hfx hszx hen hge hkk
          generalize en.b = x at *
          generalize hnsl : x.h.ns = ns at *
          clear hnsl
          go_wp2_with fail
          refine (HNM.out wr HBE.out).mono ?_
          rintro e' w7 ⟨p7, c7, rfl, hin7, hfr7, hb7⟩
          have HC7 := Lib.hid (HBE.out.trans (hb7.mono HBE.out.size))
          clear hb7 HNM
          by_cases hn0 : ns.length = 0
          · have hnn : (((ns.length : Nat) : Int)) = 0 := by omega
            have HC8 : Hid (Below w6.heap.size w6 w7) := HC7
            clear hin7 hfr7 HC7
            generalize ns.length = nl at *
            subst hn0
            clear hnn
            go_wp2_with fail
            have hC8d := HC8.out.drew
            obtain ⟨z0, z1, z2, z3, z4, z5⟩ := HRK.out _ HC8.out
            go_wp2_with fail
            go_region_held3 (fun W => W.cell? ⟨gr, k * 8, none⟩ = some (.int .i64 x.h.k) ∧ W.cell? ⟨gr, k * 8 + 1, none⟩ = some (.int .i64 x.h.m) ∧ W.cell? ⟨gr, k * 8 + 2, none⟩ = some (.int .i64 x.h.f) ∧ W.cell? ⟨gr, k * 8 + 3, none⟩ = some (.int .i64 x.h.t) ∧ W.cell? ⟨gr, k * 8 + 4, none⟩ = some (.slice x.h.np x.h.nn x.h.nc) ∧ W.cell? ⟨gr, k * 8 + 5, none⟩ = some (.slice x.h.kp x.h.kn x.h.kc)) (first | exact ⟨z0, z1, z2, z3, z4, z5⟩ | exact ⟨y0, y1, y2, y3, y4, y5⟩ | go_keep) (first
              | (go_at_call 20; refine (HBR.out _ hC8d).mono ?_; rintro e' wq ⟨y, rfl, hyl, hys, hyf, hyb⟩; have hCq := HC8.out.drew.trans (hyb.mono HC8.out.size); have HCq := Lib.hid hCq; have HY := Lib.hid (HSM.out y wq hyl hys hyf hCq); obtain ⟨y0, y1, y2, y3, y4, y5⟩ := HRK.out wq hCq; clear hyl hys hyf hyb)
              | (go_at_call 19; refine HY.out.mono ?_; rintro e' wq2 ⟨rfl, hyb2⟩; have HCE := Lib.hid (HCq.out.trans (hyb2.mono HCq.out.size)); obtain ⟨y0, y1, y2, y3, y4, y5⟩ := HRK.out wq2 HCE.out))
            all_goals
              go_wp2_with fail
              go_roundw
              case rel => exact ⟨k + 1, by omega, by go_num, HCE.out⟩
              case measure => simp [intOf]; omega
          · obtain ⟨g7, rfl, hg7, hc7, f7⟩ := hfr7 hn0
            obtain ⟨n0, r0, hns0⟩ := List.exists_cons_of_length_pos (by omega : 0 < ns.length)
            have c7' : w7.cell? ⟨g7, 0, none⟩ = some (.int .i64 n0) := by
              obtain ⟨b7, off7, hp7, _, _, hat7⟩ := hin7.2.resolve_left hn0
              injection hp7 with hp7
              injection hp7 with h1 h2
              subst h1 h2
              have := hat7 0 (by omega)
              simpa [hns0] using this
            have hpos : (0 : Int) < ((ns.length : Nat) : Int) := by omega
            have HC8 : Hid (Below w6.heap.size w6 (w7.setCell ⟨g7, 0, none⟩ (.int .i64 (wrap64 (n0 + 1))))) := Lib.hid (HC7.out.setCell (by simp only; omega) _)
            clear hin7 hfr7 HC7 hn0 hns0
            generalize ns.length = nl at *
            go_wp2_with fail
            have hC8d := HC8.out.drew
            obtain ⟨z0, z1, z2, z3, z4, z5⟩ := HRK.out _ HC8.out
            go_wp2_with fail
            go_region_held3 (fun W => W.cell? ⟨gr, k * 8, none⟩ = some (.int .i64 x.h.k) ∧ W.cell? ⟨gr, k * 8 + 1, none⟩ = some (.int .i64 x.h.m) ∧ W.cell? ⟨gr, k * 8 + 2, none⟩ = some (.int .i64 x.h.f) ∧ W.cell? ⟨gr, k * 8 + 3, none⟩ = some (.int .i64 x.h.t) ∧ W.cell? ⟨gr, k * 8 + 4, none⟩ = some (.slice x.h.np x.h.nn x.h.nc) ∧ W.cell? ⟨gr, k * 8 + 5, none⟩ = some (.slice x.h.kp x.h.kn x.h.kc)) (first | exact ⟨z0, z1, z2, z3, z4, z5⟩ | exact ⟨y0, y1, y2, y3, y4, y5⟩ | go_keep) (first
              | (go_at_call 20; refine (HBR.out _ hC8d).mono ?_; rintro e' wq ⟨y, rfl, hyl, hys, hyf, hyb⟩; have hCq := HC8.out.drew.trans (hyb.mono HC8.out.size); have HCq := Lib.hid hCq; have HY := Lib.hid (HSM.out y wq hyl hys hyf hCq); obtain ⟨y0, y1, y2, y3, y4, y5⟩ := HRK.out wq hCq; clear hyl hys hyf hyb)
              | (go_at_call 19; refine HY.out.mono ?_; rintro e' wq2 ⟨rfl, hyb2⟩; have HCE := Lib.hid (HCq.out.trans (hyb2.mono HCq.out.size)); obtain ⟨y0, y1, y2, y3, y4, y5⟩ := HRK.out wq2 HCE.out))
            all_goals
              go_wp2_with fail
              go_roundw
              case rel => exact ⟨k + 1, by omega, by go_num, HCE.out⟩
              case measure => simp [intOf]; omega
        · have h00 : a.all[0]? = some ⟨a, -1, 1, -1, 0, a.size⟩ := by
            show (a.flat (-1) 1 (-1) a.size 0)[0]? = _
            rw [flat_eq]; rfl
          have hA1 : a.size ≤ 1000 := by omega
          have HC := HBE
          have HT : ∀ W, Below wr.heap.size wr W → Below w2.heap.size w2 W := fun W hW => HB6.out.trans ((HBE.out.trans (hW.mono HBE.out.size)).mono HB6.out.size)
          have HLA2 : ∀ W, Below wr.heap.size wr W → a.Lies W := fun W hW => hLA.out W (HT W hW)
          have HLB2 : ∀ W, Below wr.heap.size wr W → b.Lies W := fun W hW => hLB.out W (HT W hW)
          have K26 := Lib.hid fun W (hW : Below wr.heap.size wr W) => right_any a W (HLA2 W hW) HFITA.out hA1
          have K27 := Lib.hid fun W (hW : Below wr.heap.size wr W) => refRight_any a W (HLA2 W hW) HFITA.out hA1
          have K28 := Lib.hid fun W (hW : Below wr.heap.size wr W) => same28_any a b W (HLA2 W hW) (HLB2 W hW) HFITA.out hA1
          have K28a := Lib.hid fun W (hW : Below wr.heap.size wr W) => same28_any a a W (HLA2 W hW) (HLA2 W hW) HFITA.out hA1
          have K19 := Lib.hid fun W (hW : Below wr.heap.size wr W) => refSame_any a b W (HLA2 W hW) (HLB2 W hW) HFITA.out hA1
          have K20 := Lib.hid fun W (hW : Below wr.heap.size wr W) => branch_yes a hA1 a 0 W _ h00 rfl (HA6.out.step (HBE.out.trans (hW.mono HBE.out.size))) HFITA.out (lens_of_lies _ (HLA2 W hW))
          have K20b : Hid (∀ W, Below wr.heap.size wr W → Calls Try.prog 20 #[.pointer (some ⟨T, 0, none⟩), .int .i64 0] W fun e w' => ∃ y : Br, e = .returned y.h.val ∧ (∀ W', Below w'.heap.size w' W' → Calls Try.prog 19 #[y.h.val, a.h.val] W' fun e w'' => e = .returned (.bool true) ∧ Below W'.heap.size W' w'') ∧ Below W.heap.size W w') := Lib.hid fun W hW => by
            refine (K20.out W hW).mono ?_
            rintro e w' ⟨y, h1, h2, _, h4, h5, h6⟩
            refine ⟨y, h1, fun W' hW' => ?_, h6⟩
            have := refSame_any y a W' (h2.step _ hW') (HLA2 W' (hW.trans ((h6.trans (hW'.mono h6.size)).mono hW.size))) h5 (by rw [same_size y a h4]; exact hA1)
            rw [h4] at this
            exact this
          rw [same_refl] at K28a
          rw [← right_eq] at K27
          rw [HAH.out] at K26 K27 K28 K28a K19 K20b
          rw [HBH.out] at K28 K19
          have KS : Hid (∀ W, Below wr.heap.size wr W → Below w2.heap.size w2 W) := Lib.hid HT
          have KE : Hid (∀ W, Below wr.heap.size wr W → Below w.heap.size w W) := Lib.hid fun W hW => HBW.out.trans ((HT W hW).mono HBW.out.size)
          clear HC HT HLA2 HLB2 h00 K20
          go_wp2_with fail
          refine tail14 T w.heap.size (w.heap.size + 1) ah bh a.right (a.same b) (Fs.of rfl rfl (by simp [Act.eval])) (fun W hW => ⟨HCA2.out W (KS.out W hW), HCB2.out W (KS.out W hW)⟩) K26.out K27.out K28.out K28a.out K19.out K20b.out HAL.out ?_ ?_
          · intro c a a' w hd h
            have h2 : a.defers = [] ∧ _ := h
            exact ⟨hd.trans h2.1, h2.2⟩
          · intro a' w' h4 hd hB
            go_wp2_with fail
            exact bodyPost_ret (results_tmp rfl _ _ _) hd ⟨congrArg Ending.returned h4, KE.out _ hB⟩
end Go.Proofs.Ytcijjeflojaocaa
