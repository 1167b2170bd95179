/-
  The law MatchClasses, walked.
-/
import Derived.Test.YtckddpnjammfmaaAlw
import Derived.Test.YtckddpnjammfmaaArp
import Derived.Lib.QuietBelow
import Derived.BigQuiet
namespace Go.Proofs.Ytckddpnjammfmaa
open Go.RowKit
set_option maxRecDepth 20000
set_option linter.unusedVariables false
set_option linter.unusedSimpArgs false

theorem rem_ok (a : Int) : ∃ A : Nat, A < 20 ∧ Int.tmod (wrap64 (Int.tmod a 20 + 20)) 20 = (A : Int) := by
  have h1 := Int.tmod_lt_of_pos a (show (0 : Int) < 20 by omega)
  have h2 : -20 < Int.tmod a 20 := by
    rcases Int.lt_or_le a 0 with h | h
    · have := Int.tmod_lt_of_pos (-a) (show (0 : Int) < 20 by omega)
      rw [Int.neg_tmod] at this; omega
    · have := Int.tmod_nonneg 20 h; omega
  have h3 := Int.tmod_nonneg 20 (show 0 ≤ Int.tmod a 20 + 20 by omega)
  have h4 := Int.tmod_lt_of_pos (Int.tmod a 20 + 20) (show (0 : Int) < 20 by omega)
  rw [IntWalk.wrap64_in _ (by omega)]
  exact ⟨(Int.tmod (Int.tmod a 20 + 20) 20).toNat, by omega, by omega⟩
set_option maxHeartbeats 8000000 in
theorem classes_big (p : Option Addr) (n c : Nat) (a b d : Int) (w : World) (hn : 60 < n) :
    Calls Try.prog 6 #[.slice p n c, .int .i64 a, .int .i64 b, .int .i64 d] w fun e w' => e = .returned (.bool true) ∧ Below w.heap.size w w' := by
  have hd : decide (n ≤ 60) = false := by simp; omega
  have HA := fun W => alive_any W
  have HBd := bounded_any p n c w
  rw [hd] at HBd
  go_enter Try.func6, Try.ntmps6
  go_wp2_with (first | (go_at_call 13; refine HBd.mono ?_; rintro e w1 ⟨rfl, rfl⟩) | (go_at_call 8; refine (HA _).mono ?_; rintro e w2 ⟨rfl, hb⟩; have HB := Lib.hid hb; clear hb))
  go_ret
  exact ⟨rfl, HB.out⟩
set_option maxHeartbeats 8000000 in
theorem classes_any (p : Option Addr) (n c : Nat) (l : List P2) (a b d : Int) (w : World) (h : PS w p n c l) (hn : n ≤ 60) (ha : W64 a) (hb : W64 b) (hd : W64 d) :
    Calls Try.prog 6 #[.slice p n c, .int .i64 a, .int .i64 b, .int .i64 d] w fun e w' => e = .returned (.bool true) ∧ Below w.heap.size w w' := by
  obtain ⟨i48, hi48, hx0, hx1, hx2⟩ := info_parts info48
  have HP := Lib.hid h
  obtain ⟨hml, _⟩ := h
  have HML := Lib.hid hml
  have hdn : decide (n ≤ 60) = true := by simp [hn]
  have HBd := bounded_any p n c w
  rw [hdn] at HBd
  obtain ⟨A, hA, eA⟩ := rem_ok a
  obtain ⟨B, hB, eB⟩ := rem_ok b
  obtain ⟨D, hD, eD⟩ := rem_ok d
  have a1 : -9223372036854775808 ≤ a ∧ a ≤ 9223372036854775807 := ha
  have b1 : -9223372036854775808 ≤ b ∧ b ≤ 9223372036854775807 := hb
  have d1 : -9223372036854775808 ≤ d ∧ d ≤ 9223372036854775807 := hd
  clear hml ha hb hd
  go_enter Try.func6, Try.ntmps6
  go_wp2_with (go_at_call 13; refine HBd.mono ?_; rintro e w1 ⟨rfl, rfl⟩)
  clear eA eB eD a1 b1 d1
  generalize wrap64 (Int.tmod a 20 + 20) = ya
  generalize wrap64 (Int.tmod b 20 + 20) = yb
  generalize wrap64 (Int.tmod d 20 + 20) = yd
  generalize Int.tmod a 20 = xa
  generalize Int.tmod b 20 = xb
  generalize Int.tmod d 20 = xd
  go_loopw [9, 35] (fun v i wr => ∃ (k : Nat), k ≤ n ∧ i = .int .i64 k ∧ Hid (OwnP 48 wr w.heap.size v (vl 20 (l.take k))) ∧ Hid (Below w.heap.size w wr)) (fun _ i _ => n - (intOf i).toNat)
  case atStart => exact ⟨0, by omega, rfl, Lib.hid (OwnP.nil _ _ _), Lib.hid (Below.refl _ _)⟩
  case round =>
    obtain ⟨k, hk, rfl, HO, HBw⟩ := hrel
    by_cases hlt : k < n
    · obtain ⟨hmm, h0 | ⟨gb, o, rfl, hcb, hgb, hat⟩⟩ := HP.out
      · omega
      clear hmm
      obtain ⟨p, hp⟩ : ∃ p, l[k]? = some p := ⟨_, List.getElem?_eq_getElem (by have := HML.out; omega)⟩
      obtain ⟨v0, v1⟩ := hat k p hp
      rw [← HBw.out.cell (p := ⟨gb, _, none⟩) hgb] at v0 v1
      have hbz := HBw.out.size
      have hgb2 : gb < wr.heap.size := by omega
      have s1 : (0 : Int) ≤ (k : Int) := by omega
      have s2 : (k : Int) < (n : Int) := by omega
      have HTK : Hid (vl 20 (l.take (k + 1)) = vl 20 (l.take k) ++ (bif inR 20 p then [p] else [])) := Lib.hid (by rw [take_snoc hp, vl_snoc])
      have HLN : Hid ((vl 20 (l.take k)).length ≤ 60) := Lib.hid (by have := List.length_filter_le (inR 20) (l.take k); simp only [List.length_take] at this; unfold vl; omega)
      clear hp hat
      have HB1 := Lib.hid (HBw.out.alloc hbz (.cells #[.int .i64 p.1, .int .i64 p.2] 48))
      have HO1 := Lib.hid (HO.out.step ((Below.refl wr.heap.size wr).alloc (Nat.le_refl _) (.cells #[.int .i64 p.1, .int .i64 p.2] 48)))
      by_cases hin : inR 20 p = true
      · obtain ⟨i0, i1, i2, i3⟩ := (inR_iff 20 p).1 hin
        have i1' : p.1 < 20 := by omega
        have i3' : p.2 < 20 := by omega
        have HT2 : Hid (vl 20 (l.take (k + 1)) = vl 20 (l.take k) ++ [p]) := Lib.hid (by rw [HTK.out, hin]; rfl)
        have HROW : Hid ((wr.alloc (.cells #[.int .i64 p.1, .int .i64 p.2] 48)).ownsRow w.heap.size 48 2 u9 (vl 20 (l.take k)).length (pcells (vl 20 (l.take k)))) := Lib.hid HO1.out
        have hpl : (pcells (vl 20 (l.take k))).length = (vl 20 (l.take k)).length * 2 := pcells_length _
        have HNW : Hid (∀ j u, (pc p)[j]? = some u → ((wr.alloc (.cells #[.int .i64 p.1, .int .i64 p.2] 48)).alloc (.cells #[.int .i64 p.1, .int .i64 p.2] 48)).cell? ((⟨wr.heap.size + 1, 0, none⟩ : Addr).add j) = some u) := Lib.hid (by
          have := newp 48 (wr.alloc (.cells #[.int .i64 p.1, .int .i64 p.2] 48)) p
          rwa [show (wr.alloc (.cells #[.int .i64 p.1, .int .i64 p.2] 48)).heap.size = wr.heap.size + 1 by simp] at this)
        have HZ : Hid (w.heap.size ≤ (wr.alloc (.cells #[.int .i64 p.1, .int .i64 p.2] 48)).heap.size) := Lib.hid (by simp; omega)
        clear hin i1 i3
        go_wp2_with (first
          | (at_builtin; refine wpList_append_own _ rfl _ _ 25 rfl w.heap.size 48 i48 _ 2 16 Try.underlying25 hi48 hx0 hx1 hx2 rfl (by decide) _ _ _ rfl (World.ownsRow.alloc HROW.out _) ⟨_, 0, none⟩ 1 1 (pc p) rfl rfl HNW.out (onep _) (by have := HLN.out; unfold maxLen; omega) (by have := HLN.out; omega) (by simp; omega) ?_; intro v' w3 hown' hg3 hnil3; have HO' := Lib.hid (OwnP.snoc hown'); have HG3 := Lib.hid ((HB1.out.alloc HZ.out _).grown hg3 (by simp; omega) (fun j hj => (World.ownsRow.lt HROW.out j hj).1)); clear hown' hg3 hnil3)
          | go_in)
        go_roundw
        case rel => exact ⟨k + 1, by omega, by go_num, Lib.hid (by rw [HT2.out]; exact HO'.out), HG3⟩
        case measure => simp [intOf]; omega
      · have HT2 : Hid (vl 20 (l.take (k + 1)) = vl 20 (l.take k)) := Lib.hid (by rw [HTK.out]; simp [hin])
        obtain ⟨pa, pb⟩ := p
        have hno : ¬ (0 ≤ pa ∧ pa < 20 ∧ 0 ≤ pb ∧ pb < 20) := fun e => hin ((inR_iff 20 (pa, pb)).2 e)
        simp only at v0 v1 HO1 HB1
        clear hin HTK
        by_cases h1 : 0 ≤ pa
        · by_cases h2 : pa < 20
          · by_cases h3 : 0 ≤ pb
            · have h4 : ¬ pb < 20 := fun e => hno ⟨h1, h2, h3, e⟩
              clear hno
              go_wp2_with fail
              go_roundw
              case rel => exact ⟨k + 1, by omega, by go_num, Lib.hid (by rw [HT2.out]; exact HO1.out), HB1⟩
              case measure => simp [intOf]; omega
            · clear hno
              go_wp2_with fail
              go_roundw
              case rel => exact ⟨k + 1, by omega, by go_num, Lib.hid (by rw [HT2.out]; exact HO1.out), HB1⟩
              case measure => simp [intOf]; omega
          · clear hno
            go_wp2_with fail
            go_roundw
            case rel => exact ⟨k + 1, by omega, by go_num, Lib.hid (by rw [HT2.out]; exact HO1.out), HB1⟩
            case measure => simp [intOf]; omega
        · clear hno
          go_wp2_with fail
          go_roundw
          case rel => exact ⟨k + 1, by omega, by go_num, Lib.hid (by rw [HT2.out]; exact HO1.out), HB1⟩
          case measure => simp [intOf]; omega
    · have hkn : k = n := by omega
      have HO2 : Hid (OwnP 48 wr w.heap.size u9 (vl 20 l)) := Lib.hid (by have := HO.out; rwa [hkn, HML.out, List.take_length] at this)
      clear hkn
      obtain ⟨q9, n9, c9, hv9, hps9⟩ := HO2.out.ps
      subst hv9
      have HPIN := Lib.hid hps9
      have hLIN : (vl 20 l).length ≤ 60 := by have := List.length_filter_le (inR 20) l; have := HML.out; unfold vl; omega
      have hn9 : n9 ≤ 60 := by have := hps9.1; omega
      have HWF : Hid (∀ p ∈ vl 20 l, W64 p.1 ∧ W64 p.2) := Lib.hid fun p hp => by
        obtain ⟨i0, i1, i2, i3⟩ := (inR_iff 20 p).1 (List.mem_filter.1 hp).2
        unfold W64; omega
      have HUF := Lib.hid (cls_uf 20 l)
      have HVV : Hid (vl 20 (vl 20 l) = vl 20 l) := Lib.hid (by unfold vl; rw [List.filter_filter]; congr 1; funext x; simp)
      have HPW := Lib.hid (HP.out.step (w1 := wr) (by have := HBw.out; exact this))
      have HCL := Lib.hid (class_any 20 p n c l wr HPW.out hn (by omega))
      clear hps9 HO HO2
      go_wp2_with (first
        | (go_at_call 14; refine HCL.out.mono ?_; rintro e w3 ⟨v3, rfl, ho3, hb3⟩; obtain ⟨g3, c3, hv3⟩ := own_shape (n := 19) ho3; subst hv3; have HO3 := Lib.hid ho3; have HB3 := Lib.hid hb3; have HK15 := Lib.hid (links_any q9 n9 c9 (vl 20 l) w3 (HPIN.out.step hb3) hn9); clear ho3 hb3)
        | (go_at_call 15; refine HK15.out.mono ?_; rintro e w4 ⟨v4, rfl, ho4, hb4⟩; obtain ⟨q4, n4, c4, hv4, hps4⟩ := ho4.ps; subst hv4; have HPS4 := Lib.hid hps4; have HB4 := Lib.hid hb4; have HO34 := HO3.out.step hb4; have hrA : cls 20 l A ≤ A := HUF.out.le A; have kA : w4.cell? ⟨g3, A, none⟩ = some (.int .i64 (cls 20 l A : Nat)) := HO34.cell A _ (rowF_get 20 _ A hA); have tA1 : ¬ ((cls 20 l A : Nat) : Int) < 0 := (by omega); have tA2 : ((cls 20 l A : Nat) : Int) < 20 := (by omega); have tA3 : (0 : Int) ≤ (A : Int) := (by omega); have tA4 : (A : Int) < 20 := (by omega); clear ho4 hb4 hps4))
      have HR4 := Lib.hid HO34
      have HN4 : Hid (n4 = (puts (vl 20 l)).length) := Lib.hid HPS4.out.1
      have hn4 : n4 ≤ 60 := by have := HPS4.out.1; have := puts_len (vl 20 l); omega
      have HRI := Lib.hid (puts_rise (vl 20 l))
      have HBW4 : Hid (Below w.heap.size w w4) := Lib.hid (own_to (own_to HB4.out HB3.out) HBw.out)
      have HPI4 : Hid (PS w4 q9 n9 c9 (vl 20 l)) := Lib.hid ((HPIN.out.step HB3.out).step HB4.out)
      clear kA tA1 tA2 tA3 tA4 HO34
      go_loopw [14] (fun i wi => ∃ j : Nat, j ≤ n4 ∧ i = .int .i64 (j + 1 : Nat) ∧ Hid (Below w4.heap.size w4 wi)) (fun i _ => n4 - (intOf i).toNat)
      case atStart => exact ⟨0, by omega, rfl, Lib.hid (Below.refl _ _)⟩
      case round =>
        obtain ⟨j, hj, rfl, HBj⟩ := hrel
        by_cases hlt4 : j + 1 < n4
        · obtain ⟨hmm, h0 | ⟨g4, o4, rfl, hc4, hg4, hat4⟩⟩ := HPS4.out
          · omega
          clear hmm
          obtain ⟨x, hx⟩ : ∃ x, (puts (vl 20 l))[j]? = some x := ⟨_, List.getElem?_eq_getElem (by have := HN4.out; omega)⟩
          obtain ⟨y, hy⟩ : ∃ y, (puts (vl 20 l))[j + 1]? = some y := ⟨_, List.getElem?_eq_getElem (by have := HN4.out; omega)⟩
          have hxy : plt x y = true := by
            obtain ⟨h1, e1⟩ := List.getElem?_eq_some_iff.1 hx
            obtain ⟨h2, e2⟩ := List.getElem?_eq_some_iff.1 hy
            have := (List.pairwise_iff_getElem.1 HRI.out) j (j + 1) h1 h2 (by omega)
            rwa [e1, e2] at this
          have hyx := plt_asym hxy
          obtain ⟨x0, x1⟩ := hat4 j x hx
          obtain ⟨y0, y1⟩ := hat4 (j + 1) y hy
          obtain ⟨j1, hj1⟩ : ∃ j1, j1 = j + 1 := ⟨_, rfl⟩
          rw [← hj1] at y0 y1 hlt4 ⊢
          rw [← HBj.out.cell (p := ⟨g4, _, none⟩) hg4] at x0 x1 y0 y1
          have HJ1 := Lib.hid hj1
          have q1 : IntKind.i64.wrap ((j1 : Int) - 1) = (j : Int) := by rw [show (j1 : Int) - 1 = (j : Int) by omega]; exact IntWalk.i64_in _ (by omega)
          have q2 : (0 : Int) ≤ (j1 : Int) := by omega
          have q3 : (j1 : Int) < (n4 : Int) := by omega
          have q4' : (0 : Int) ≤ (j : Int) := by omega
          have q5 : (j : Int) < (n4 : Int) := by omega
          have hg4' : g4 < wr.heap.size := Nat.lt_of_lt_of_le hg4 HBj.out.size
          have HLxy : Hid (∀ W, Below wr.heap.size wr W → Calls Try.prog 21 #[.agg #[.int .i64 x.1, .int .i64 x.2], .agg #[.int .i64 y.1, .int .i64 y.2]] W fun e w' => e = .returned (.bool true) ∧ Below wr.heap.size wr w') := Lib.hid fun W hW => by
            refine (less_any x y W).mono ?_
            rintro e w' ⟨rfl, q, os, rfl⟩
            exact ⟨by rw [hxy], grow_below hW hW.size q os⟩
          have HLyx : Hid (∀ W, Below wr.heap.size wr W → Calls Try.prog 21 #[.agg #[.int .i64 y.1, .int .i64 y.2], .agg #[.int .i64 x.1, .int .i64 x.2]] W fun e w' => e = .returned (.bool false) ∧ Below wr.heap.size wr w') := Lib.hid fun W hW => by
            refine (less_any y x W).mono ?_
            rintro e w' ⟨rfl, q, os, rfl⟩
            exact ⟨by rw [hyx], grow_below hW hW.size q os⟩
          clear hx hy hxy hyx hat4 hj1 hj
          go_wp2_with fail
          have hS0 : Below wr.heap.size wr wr.drew := (Below.refl _ _).drew
          have HC4 : Hid (∀ W, Below wr.heap.size wr W → W.cell? ⟨g4, o4 + j * 2, none⟩ = some (.int .i64 x.1) ∧ W.cell? ⟨g4, o4 + j * 2 + 1, none⟩ = some (.int .i64 x.2) ∧ W.cell? ⟨g4, o4 + j1 * 2, none⟩ = some (.int .i64 y.1) ∧ W.cell? ⟨g4, o4 + j1 * 2 + 1, none⟩ = some (.int .i64 y.2)) := Lib.hid fun W hW =>
            ⟨(hW.cell (p := ⟨g4, _, none⟩) hg4').trans x0, (hW.cell (p := ⟨g4, _, none⟩) hg4').trans x1, (hW.cell (p := ⟨g4, _, none⟩) hg4').trans y0, (hW.cell (p := ⟨g4, _, none⟩) hg4').trans y1⟩
          have HSz : Hid (∀ W, Below wr.heap.size wr W → g4 < W.heap.size) := Lib.hid fun W hW => Nat.lt_of_lt_of_le hg4' hW.size
          have k0 := HC4.out _ hS0
          clear x0 x1 y0 y1
          go_region_held3 (fun w' => w'.cell? ⟨g4, o4 + j * 2, none⟩ = some (.int .i64 x.1) ∧ w'.cell? ⟨g4, o4 + j * 2 + 1, none⟩ = some (.int .i64 x.2) ∧ w'.cell? ⟨g4, o4 + j1 * 2, none⟩ = some (.int .i64 y.1) ∧ w'.cell? ⟨g4, o4 + j1 * 2 + 1, none⟩ = some (.int .i64 y.2)) (first | exact k0 | exact k1 | exact k2 | go_keep) (first
            | (go_at_call 21; refine (HLxy.out _ hS0).mono ?_; rintro e w5 ⟨rfl, hb5⟩; have HB5 := Lib.hid hb5; have k1 := HC4.out _ hb5; have z1 := HSz.out _ hb5; clear hb5)
            | (go_at_call 21; refine (HLyx.out _ HB5.out).mono ?_; rintro e w6 ⟨rfl, hb6⟩; have HB6 := Lib.hid hb6; have k2 := HC4.out _ hb6; have z2 := HSz.out _ hb6; clear hb6))
          go_wp2_with fail
          go_roundw
          case rel => exact ⟨j1, by omega, by go_num, Lib.hid (HBj.out.trans (HB6.out.mono HBj.out.size))⟩
          case measure => simp [intOf]; omega
        · have HPS0 := Lib.hid ((HPI4.out).step HBj.out)
          have HPM := Lib.hid (HPS4.out.step HBj.out)
          have HROW := Lib.hid (HR4.out.step HBj.out)
          have HBB := Lib.hid (own_to HBj.out HBW4.out)
          clear HPIN HPS4 HR4 HPI4 HBj HB3 HB4 HBw
          obtain ⟨wo, hwo⟩ : ∃ wo : World, wo = wr := ⟨_, rfl⟩
          have HL1 := Lib.hid (linked_any q9 n9 c9 (vl 20 l) A B wr HPS0.out hn9 HWF.out (wf_n _ (by omega)) (wf_n _ (by omega)))
          go_wp2_with fail
          refine HL1.out.mono ?_
          rintro e w1 ⟨x, rfl, hx, hb1⟩
          have HX := Lib.hid hx
          have HB1 := Lib.hid hb1
          clear hx hb1
          have HL2 := Lib.hid (linked_any q9 n9 c9 (vl 20 l) B D w1 (HPS0.out.step HB1.out) hn9 HWF.out (wf_n _ (by omega)) (wf_n _ (by omega)))
          go_wp2_with fail
          refine HL2.out.mono ?_
          rintro e w2 ⟨y, rfl, hy, hb2⟩
          have HY := Lib.hid hy
          have HB2 : Hid (Below wr.heap.size wr w2) := Lib.hid (own_to hb2 HB1.out)
          clear hy hb2
          have HPS2 := Lib.hid (HPS0.out.step HB2.out)
          have HPM2 := Lib.hid (HPM.out.step HB2.out)
          have HROW2 := Lib.hid (HROW.out.step HB2.out)
          have HBB2 := Lib.hid (own_to HB2.out HBB.out)
          clear HPS0 HPM HROW HBB HB1 HB2
          have hDet : ∀ (q' : Option Addr) (n' c' : Nat) (l' : List P2) (a' b' : Int) (z : Bool), PS w2 q' n' c' l' → n' ≤ 60 → (∀ p ∈ l', W64 p.1 ∧ W64 p.2) → W64 a' → W64 b' → (z = true ↔ Cn l' a' b') → ∀ dn os, Calls Try.prog 19 #[.slice q' n' c', .int .i64 a', .int .i64 b'] (Sort.grow (redrawn w2 dn) os) fun e w' => e = .returned (.bool z) ∧ ∃ p : Regrown, w' = Sort.grow (redrawn w2 p.d) p.os := by
            intro q' n' c' l' a' b' z h1 h2 h3 h4 h5 h6 dn os
            refine Calls.regrown_of ((linked_any q' n' c' l' a' b' _ (h1.step (below_regrown w2 dn os)) h2 h3 h4 h5).mono ?_)
            rintro e w' ⟨o, rfl, ho, hb⟩
            have : o = z := by
              have : o = true ↔ z = true := by rw [ho, h6]
              cases o <;> cases z <;> simp at this ⊢
            exact ⟨by rw [this], hb⟩
          have hL3 := hDet q9 n9 c9 (vl 20 l) B A x HPS2.out hn9 HWF.out (wf_n _ (by omega)) (wf_n _ (by omega)) (HX.out.trans ⟨Cn.symm, Cn.symm⟩)
          have HWM : Hid (∀ p ∈ puts (vl 20 l), W64 p.1 ∧ W64 p.2) := Lib.hid fun p hp => by
            obtain ⟨r, hr, _, e⟩ := mem_lnk.1 ((puts_mem _ p).1 hp)
            have := HWF.out r hr
            rw [← e]; unfold nrm W64 at *; omega
          have hL5 := hDet q4 n4 c4 (puts (vl 20 l)) A B x HPM2.out hn4 HWM.out (wf_n _ (by omega)) (wf_n _ (by omega)) (HX.out.trans (puts_cn _ _ _).symm)
          have HL4 : Hid (x = true → y = true → ∀ dn os, Calls Try.prog 19 #[.slice q9 n9 c9, .int .i64 A, .int .i64 D] (Sort.grow (redrawn w2 dn) os) fun e w' => e = .returned (.bool true) ∧ ∃ p : Regrown, w' = Sort.grow (redrawn w2 p.d) p.os) := Lib.hid fun hx hy =>
            hDet q9 n9 c9 (vl 20 l) A D true HPS2.out hn9 HWF.out (wf_n _ (by omega)) (wf_n _ (by omega)) ⟨fun _ => (HX.out.1 hx).trans (HY.out.1 hy), fun _ => rfl⟩
          have hAl : ∀ dn os, Calls Try.prog 8 #[] (Sort.grow (redrawn w2 dn) os) fun e w' => e = .returned (.bool true) ∧ ∃ p : Regrown, w' = Sort.grow (redrawn w2 p.d) p.os := fun dn os => Calls.regrown_of (alive_any _)
          have hrAle : cls 20 l A ≤ A := HUF.out.le A
          have hrBle : cls 20 l B ≤ B := HUF.out.le B
          have kA : w2.cell? ⟨g3, A, none⟩ = some (.int .i64 (cls 20 l A : Nat)) := HROW2.out.cell A _ (rowF_get 20 _ A hA)
          have kB : w2.cell? ⟨g3, B, none⟩ = some (.int .i64 (cls 20 l B : Nat)) := HROW2.out.cell B _ (rowF_get 20 _ B hB)
          have kR : w2.cell? ⟨g3, cls 20 l A, none⟩ = some (.int .i64 (cls 20 l A : Nat)) := by
            have := HROW2.out.cell (cls 20 l A) _ (rowF_get 20 _ (cls 20 l A) (by omega))
            rwa [HUF.out.idem A] at this
          have hrx : (((cls 20 l A : Nat) : Int) == ((cls 20 l B : Nat) : Int)) = x := by
            have h1 : (cls 20 l A = cls 20 l B) ↔ x = true := by
              rw [HX.out]
              constructor
              · intro e; exact HUF.out.same hA hB e
              · intro h
                have := HUF.out.cn h
                simpa using this
            cases x with
            | true => rw [h1.2 rfl]; simp
            | false =>
              have : ¬ cls 20 l A = cls 20 l B := fun e => by have := h1.1 e; cases this
              simp; omega
          have qA := fun dn os => cell_regrown kA dn os
          have qB := fun dn os => cell_regrown kB dn os
          have qR := fun dn os => cell_regrown kR dn os
          clear kA kB kR hDet
          generalize cls 20 l A = rA at *
          generalize cls 20 l B = rB at *
          have t1 : (0 : Int) ≤ (A : Int) := by omega
          have t2 : (A : Int) < 20 := by omega
          have t3 : (0 : Int) ≤ (B : Int) := by omega
          have t4 : (B : Int) < 20 := by omega
          have t5 : (0 : Int) ≤ (rA : Int) := by omega
          have t6 : (rA : Int) < 20 := by omega
          have t7 : (rA : Int) ≤ (A : Int) := by omega
          clear hA hB hD hrAle hrBle
          go_wp2_with fail
          simp only [List.append_eq, List.cons_append, List.nil_append]
          cases x with
          | false =>
            refine wp_region_quiet_below (by kernel_rfl) (by kernel_rfl) ?_
            repeat (go_big_quiet_step (first | (with_reducible exact hL3 _ _) | (with_reducible exact hL5 _ _) | (with_reducible exact hAl _ _)))
            refine wpQuiet_nil ?_
            intro w6 hw6
            have hb6 : Below w2.heap.size w2 w6 := by obtain ⟨p, rfl⟩ := hw6; exact below_regrown _ _ _
            have HB6 := Lib.hid (own_to hb6 HBB2.out)
            clear hw6 hb6 qA qB qR hL3 hL5 hAl
            go_wp2_with fail
            go_ret
            exact ⟨rfl, HB6.out⟩
          | true =>
            cases y with
            | false =>
              refine wp_region_quiet_below (by kernel_rfl) (by kernel_rfl) ?_
              repeat (go_big_quiet_step (first | (with_reducible exact hL3 _ _) | (with_reducible exact hL5 _ _) | (with_reducible exact hAl _ _)))
              refine wpQuiet_nil ?_
              intro w6 hw6
              have hb6 : Below w2.heap.size w2 w6 := by obtain ⟨p, rfl⟩ := hw6; exact below_regrown _ _ _
              have HB6 := Lib.hid (own_to hb6 HBB2.out)
              clear hw6 hb6 qA qB qR hL3 hL5 hAl
              go_wp2_with fail
              go_ret
              exact ⟨rfl, HB6.out⟩
            | true =>
              have hL4 := HL4.out rfl rfl
              refine wp_region_quiet_below (by kernel_rfl) (by kernel_rfl) ?_
              repeat (go_big_quiet_step (first | (with_reducible exact hL3 _ _) | (with_reducible exact hL5 _ _) | (with_reducible exact hL4 _ _) | (with_reducible exact hAl _ _)))
              refine wpQuiet_nil ?_
              intro w6 hw6
              have hb6 : Below w2.heap.size w2 w6 := by obtain ⟨p, rfl⟩ := hw6; exact below_regrown _ _ _
              have HB6 := Lib.hid (own_to hb6 HBB2.out)
              clear hw6 hb6 qA qB qR hL3 hL5 hAl
              go_wp2_with fail
              go_ret
              exact ⟨rfl, HB6.out⟩
theorem classes_walk (p : Option Addr) (n c : Nat) (l : List P2) (a b d : Int) (w : World) (h : PS w p n c l ∧ ∀ p ∈ l, W64 p.1 ∧ W64 p.2) (hn : n ≤ maxLen) (ha : (Lit.int .i64 a).wf = true) (hb : (Lit.int .i64 b).wf = true) (hd : (Lit.int .i64 d).wf = true) :
    Calls Try.prog 6 #[.slice p n c, .int .i64 a, .int .i64 b, .int .i64 d] w fun e w' => e = .returned (.bool true) ∧ Below w.heap.size w w' := by
  by_cases h60 : n ≤ 60
  · exact classes_any p n c l a b d w h.1 h60 (w64_of ha) (w64_of hb) (w64_of hd)
  · exact classes_big p n c a b d w (by omega)
end Go.Proofs.Ytckddpnjammfmaa
