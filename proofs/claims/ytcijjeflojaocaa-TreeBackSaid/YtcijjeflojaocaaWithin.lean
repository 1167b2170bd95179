/-
  Within of a tree: level by level.
-/
import Derived.Test.YtcijjeflojaocaaKids
import Derived.Deep.LoopGhost
namespace Go.Proofs.Ytcijjeflojaocaa
open Go.RowKit
set_option linter.unusedVariables false
set_option linter.unusedSimpArgs false

/-- A node has a token. -/
def hasT (x : Kn) (tok : Int) : Bool := decide (x.f ≤ tok) && decide (tok < x.t)

theorem holds_yes {T g c : Nat} {l : List Kn} (k : Nat) (tok : Int) (w : World) (h : Arena w T g c l) (hk : k < l.length) :
    Calls Try.prog 36 #[.pointer (some ⟨T, 0, none⟩), .int .i64 k, .int .i64 tok] w fun e w' => e = .returned (.bool (hasT l[k] tok)) ∧ Below w.heap.size w w' := by
  obtain ⟨p, n, cc, ⟨a0, a1, a2, a3, a4, a5, a6, a7, a8⟩, hin⟩ := h.node hk
  have h1 := h.top
  have hk1 : (0 : Int) ≤ (k : Int) := by omega
  have hk2 : (k : Int) < (l.length : Int) := by omega
  have HH : Hid (hasT l[k] tok = (decide (l[k].f ≤ tok) && decide (tok < l[k].t))) := Lib.hid rfl
  clear hin h
  generalize hasT l[k] tok = q at *
  generalize l[k] = x at *
  by_cases c1 : x.f ≤ tok
  · by_cases c2 : tok < x.t
    · have hq : q = true := by rw [HH.out]; simp [c1, c2]
      subst hq
      go_enter Try.func36, Try.ntmps36
      go_wp2
      go_ret
      exact ⟨rfl, (Below.refl _ _).alloc (Nat.le_refl _) _⟩
    · have hq : q = false := by rw [HH.out]; simp [c1, c2]
      subst hq
      go_enter Try.func36, Try.ntmps36
      go_wp2
      go_ret
      exact ⟨rfl, (Below.refl _ _).alloc (Nat.le_refl _) _⟩
  · have hq : q = false := by rw [HH.out]; simp [c1]
    subst hq
    go_enter Try.func36, Try.ntmps36
    go_wp2
    go_ret
    exact ⟨rfl, (Below.refl _ _).alloc (Nat.le_refl _) _⟩

/-- Levels of nodes: those that have the token, by what kids there are. -/
def levels (kids : Nat → List Nat) (has : Nat → Bool) : Nat → List Nat
  | 0 => [0]
  | d + 1 => (levels kids has d).flatMap fun n => (kids n).filter has
theorem part_len (kids : Nat → List Nat) (has : Nat → Bool) (L : List Nat) (i j : Nat) (h : i < L.length) :
    ((L.take i).flatMap (fun n => (kids n).filter has) ++ ((kids L[i]).take j).filter has).length ≤ (L.flatMap fun n => (kids n).filter has).length := by
  have e : L.flatMap (fun n => (kids n).filter has) = (L.take i).flatMap (fun n => (kids n).filter has) ++ ((kids L[i]).filter has ++ (L.drop (i + 1)).flatMap fun n => (kids n).filter has) := by
    conv => lhs; rw [← List.take_append_drop i L, List.drop_eq_getElem_cons h, List.flatMap_append, List.flatMap_cons]
  rw [e]
  have h1 := ((List.take_sublist j (kids L[i])).filter has).length_le
  simp only [List.length_append]
  omega
structure Levels (l : List Kn) (tok : Int) (kids : Nat → List Nat) (has : Nat → Bool) : Prop where
  chain : ∀ i (h : i < l.length), Chain (fun i => l[i]?.map Kn.next) l[i].first (kids i) ∧ (kids i).length ≤ 1000
  sees : ∀ i (h : i < l.length), has i = hasT l[i] tok
  within : ∀ d n, n ∈ levels kids has d → n < l.length
  deep : ∀ d, levels kids has d ≠ [] → d < 1000
  few : ∀ d, (levels kids has d).length ≤ 1000
theorem flatMap_take_succ {α β : Type} (l : List α) (f : α → List β) (k : Nat) (h : k < l.length) : (l.take (k + 1)).flatMap f = (l.take k).flatMap f ++ f l[k] := by
  rw [List.take_succ_eq_append_getElem h, List.flatMap_append]; simp
theorem filter_take_succ (l : List Nat) (p : Nat → Bool) (k : Nat) (h : k < l.length) : (l.take (k + 1)).filter p = (l.take k).filter p ++ (bif p l[k] then [l[k]] else []) := by
  rw [List.take_succ_eq_append_getElem h, List.filter_append]
  cases hp : p l[k] <;> simp [hp]

set_option maxHeartbeats 4000000 in
theorem within_yes {T g c : Nat} {l : List Kn} (tok : Int) (w : World) (h : Arena w T g c l) (kids : Nat → List Nat) (has : Nat → Bool) (hL : Levels l tok kids has) :
    Calls Try.prog 24 #[.pointer (some ⟨T, 0, none⟩), .int .i64 tok] w fun e w' => Below w.heap.size w w' ∧ ((has 0 = false ∧ e = .returned (.int .i64 (-1))) ∨ (has 0 = true ∧ ∃ d, levels kids has (d + 1) = [] ∧ ∃ (hne : levels kids has d ≠ []), e = .returned (.int .i64 ((levels kids has d).getLast hne : Int)))) := by
  obtain ⟨i0, hi0, hy0, hy1, hy2⟩ := info_parts info3
  have h0 : 0 < l.length := h.2.2.1
  have H := Lib.hid (has_yes 0 w h h0)
  have HH := Lib.hid (holds_yes 0 tok w h h0)
  rw [← hL.sees 0 h0] at HH
  have HA := Lib.hid h
  have HL := Lib.hid hL
  clear h hL
  cases hb : has 0
  · rw [hb] at HH
    go_enter Try.func24, Try.ntmps24
    go_wp2_with fail
    refine H.out.mono ?_
    rintro e w1 ⟨rfl, rfl⟩
    go_wp2_with fail
    refine HH.out.mono ?_
    rintro e w1 ⟨rfl, hb1⟩
    have HB := Lib.hid hb1
    clear hb1
    go_wp2_with fail
    go_ret
    exact ⟨HB.out, .inl ⟨by simp, rfl⟩⟩
  · rw [hb] at HH
    go_enter Try.func24, Try.ntmps24
    go_wp2_with fail
    refine H.out.mono ?_
    rintro e w1 ⟨rfl, rfl⟩
    go_wp2_with fail
    refine HH.out.mono ?_
    rintro e w1 ⟨rfl, hb1⟩
    have HB := Lib.hid (hb1.alloc hb1.size (.cells #[.int .i64 0] 3))
    have HOW : Hid (OwnN (w1.alloc (.cells #[.int .i64 0] 3)) w.heap.size (.slice (some ⟨w1.heap.size, 0, none⟩) 1 1) (levels kids has 0)) := Lib.hid (own_lit (heap_alloc_new w1 _) hb1.size rfl (by unfold maxLen; omega))
    clear hb1
    go_wp2_with fail
    go_loopg [5] 1000 (fun k v wr => ∃ d, k + d = 1000 ∧ levels kids has d ≠ [] ∧ OwnN wr w.heap.size v (levels kids has d) ∧ Below w.heap.size w wr)
    case atStart => exact ⟨0, by omega, by simp [levels], HOW.out, HB.out⟩
    case round =>
      obtain ⟨d, hd, hne, hown, hbe⟩ := hrel
      obtain ⟨wo, hwo⟩ : ∃ wo, wo = wr := ⟨_, rfl⟩
      subst hwo
      have hd1 := HL.out.deep d hne
      have hlen := HL.out.few d
      have hlen1 := HL.out.few (d + 1)
      have HW := Lib.hid (HL.out.within d)
      have HNX : Hid (levels kids has (d + 1) = (levels kids has d).flatMap fun n => (kids n).filter has) := Lib.hid rfl
      have HRET : Hid (∀ y : Nat, levels kids has (d + 1) = [] → (levels kids has d).getLast hne = y → (True ∧ ∃ d, levels kids has (d + 1) = [] ∧ ∃ (hne : levels kids has d ≠ []), Ending.returned (.int .i64 (y : Int)) = Ending.returned (.int .i64 ((levels kids has d).getLast hne : Int)))) := Lib.hid fun y h1 h2 => ⟨trivial, d, h1, hne, by rw [h2]⟩
      generalize hL2 : levels kids has (d + 1) = L2 at *
      generalize hLv : levels kids has d = Lv at *
      have hpos : 0 < Lv.length := List.length_pos_iff.2 hne
      obtain ⟨gl, cl, rfl, _, hgl, hgc, _⟩ := own_pos hown hpos
      have HO := Lib.hid hown
      have HBE := Lib.hid hbe
      have hz := hbe.size
      have HL2 := Lib.hid hL2
      clear hown hbe hL2 hLv
      go_wp2_with fail
      go_loopw [22, 6] (fun iv v6 wr2 => ∃ i : Nat, i ≤ Lv.length ∧ iv = .int .i64 i ∧ OwnN wr2 wo.heap.size v6 ((Lv.take i).flatMap fun n => (kids n).filter has) ∧ Below wo.heap.size wo wr2) (fun iv _ _ => Lv.length - (intOf iv).toNat)
      case atStart => exact ⟨0, by omega, rfl, World.ownsRow_nil _ _ _ _, Below.refl _ _⟩
      case round =>
        obtain ⟨i, hi, rfl, hown6, hbe2⟩ := hrel
        have hz2 := hbe2.size
        by_cases hlt : i < Lv.length
        · have hcl : wo.cell? ⟨gl, i, none⟩ = some (.int .i64 ((Lv[i] : Nat) : Int)) := own_cell HO.out i _ (by simp [hlt])
          have c0 := (hbe2.cell (p := ⟨gl, i, none⟩) hgl).trans hcl
          have hnl := HW.out Lv[i] (List.getElem_mem hlt)
          have ha := (HA.out.step HBE.out).step hbe2
          obtain ⟨_, _, _, ⟨_, _, _, _, _, a5, _, _, _⟩, _⟩ := ha.node hnl
          have hT := ha.top
          obtain ⟨hch0, hkl⟩ := HL.out.chain Lv[i] hnl
          have hpl := fun j => Nat.le_trans (part_len kids has Lv i j hlt) (by rw [← HNX.out]; exact hlen1)
          have HFT : Hid ((Lv.take (i + 1)).flatMap (fun n => (kids n).filter has) = (Lv.take i).flatMap (fun n => (kids n).filter has) ++ (kids Lv[i]).filter has) := Lib.hid (flatMap_take_succ _ _ _ hlt)
          have HPL := Lib.hid hpl
          have HCH0 := Lib.hid hch0
          have HO6 := Lib.hid hown6
          have HB2 := Lib.hid hbe2
          have hr1 : (0 : Int) ≤ ((Lv[i] : Nat) : Int) := by omega
          have hr2 : ((Lv[i] : Nat) : Int) < (l.length : Int) := by omega
          generalize (Lv.take i).flatMap (fun n => (kids n).filter has) = A at *
          clear hpl hch0 hown6 hbe2 hcl ha
          generalize l[Lv[i]].first = x0 at *
          generalize Lv[i] = n at *
          generalize kids n = K at *
          go_wp2_with fail
          go_loopg [9, 6] K.length (fun k kv v6 wr3 => ∃ (j : Nat) (x : Int), k + j = K.length ∧ kv = .int .i64 x ∧ Chain (fun i => l[i]?.map Kn.next) x (K.drop j) ∧ OwnN wr3 wo.heap.size v6 (A ++ (K.take j).filter has) ∧ Below wo.heap.size wo wr3)
          case atStart => exact ⟨0, x0, by omega, rfl, by simpa using HCH0.out, by simpa using HO6.out, HB2.out⟩
          case round =>
            obtain ⟨j, x, hj, rfl, hch, hown7, hbe3⟩ := hrel
            obtain ⟨wr3, hwr3⟩ : ∃ wr3, wr3 = wr := ⟨_, rfl⟩
            subst hwr3
            have hz3 := hbe3.size
            have ha3 := (HA.out.step HBE.out).step (hbe3.mono (Nat.le_refl _))
            by_cases hlt3 : j < K.length
            · rw [List.drop_eq_getElem_cons hlt3] at hch
              obtain ⟨rfl, y, hy, hch2⟩ := hch
              have hy' : l[K[j]]?.map Kn.next = some y := hy
              have hm := (ha3.next hy').1
              have HHO := Lib.hid (holds_yes K[j] tok _ ha3 hm)
              rw [← HL.out.sees K[j] hm] at HHO
              have HCH := Lib.hid hch2
              have HY := Lib.hid hy'
              have hne1 : (((K[j] : Nat) : Int) != -1) = true := by rw [bne_iff_ne]; omega
              have hr3 : (0 : Int) ≤ ((K[j] : Nat) : Int) := by omega
              have hr4 : ((K[j] : Nat) : Int) < (l.length : Int) := by omega
              have HFL := Lib.hid (filter_take_succ K has j hlt3)
              have hAl := HPL.out j
              have hAl2 := HPL.out (j + 1)
              have HB3 := Lib.hid hbe3
              have HO7 := Lib.hid hown7
              obtain ⟨p7, c7, rfl⟩ := ownN_form hown7
              clear hch2 hy hy' hm ha3 hbe3 hown7
              generalize hKJ : K[j] = kk at *
              cases hhk : has kk
              · rw [hhk] at HHO
                have HO8 : Hid (OwnN wr3 wo.heap.size (.slice p7 (A ++ (K.take j).filter has).length c7) (A ++ (K.take (j + 1)).filter has)) := Lib.hid (by
                  rw [HFL.out, hhk, cond_false, List.append_nil]; exact HO7.out)
                generalize (A ++ (K.take j).filter has).length = q at *
                go_wp2_with fail
                refine HHO.out.mono ?_
                rintro e w4 ⟨rfl, hb4⟩
                have hb5 := HB3.out.trans (hb4.mono hz3)
                have hT5 := ((HA.out.step HBE.out).step hb5).top
                have c6 := (((HA.out.step HBE.out).step hb5).next HY.out).2
                have HB5 := Lib.hid hb5
                have HO9 := Lib.hid (row_step HO8.out hb4)
                clear hb4 hb5
                go_wp2_with fail
                go_roundg (K.length - (j + 1))
                case measure => omega
                case rel => exact ⟨j + 1, y, by omega, rfl, HCH.out, HO9.out, HB5.out⟩
              · rw [hhk] at HHO
                have HFL2 : Hid (A ++ (K.take (j + 1)).filter has = A ++ (K.take j).filter has ++ [kk]) := Lib.hid (by
                  rw [HFL.out, hhk, cond_true, List.append_assoc])
                have hql : (A ++ (K.take j).filter has).length ≤ 1000 := hAl
                have HO8 := Lib.hid HO7.out
                generalize (A ++ (K.take j).filter has) = AA at *
                have HLEN : Hid ((AA ++ [kk]).length = AA.length + 1) := Lib.hid (by simp)
                have HO9 : Hid (wr3.ownsRow wo.heap.size 3 1 (.slice p7 AA.length c7) AA.length (AA.map mkN)) := HO8
                generalize AA.length = q at *
                go_wp2_with fail
                refine HHO.out.mono ?_
                rintro e w4 ⟨rfl, hb4⟩
                have HB4 := Lib.hid (HB3.out.trans (hb4.mono hz3))
                have HO4 := Lib.hid (row_step HO9.out hb4)
                have hz4 := hb4.size
                have HB4a : Hid (Below wo.heap.size wo (w4.alloc (.cells #[.int .i64 (kk : Int)] 3))) := Lib.hid (HB4.out.alloc (by omega) _)
                clear hb4
                go_wp2_with (at_builtin; refine wpList_append_own _ rfl _ _ 22 rfl wo.heap.size 3 i0 _ 1 8 Try.underlying22 hi0 hy0 hy1 hy2 rfl (by omega) _ q _ rfl (World.ownsRow.alloc HO4.out _) ⟨w4.heap.size, 0, none⟩ 1 1 [.int .i64 (kk : Int)] rfl rfl (one_news _ _ _ rfl) (by simp [Value.oneCell']) (by unfold maxLen; omega) (by omega) (by simp; omega) ?_)
                intro v5 w5 hown5 hgrow _
                have hown5' : OwnN w5 wo.heap.size v5 (AA ++ [kk]) := by
                  unfold OwnN
                  rw [HLEN.out, List.map_append]
                  exact hown5
                have hb5 := HB4a.out.grown hgrow (by simp; omega) (own_below HO4.out (Nat.le_refl _))
                have hT5 := ((HA.out.step HBE.out).step hb5).top
                have c6 := (((HA.out.step HBE.out).step hb5).next HY.out).2
                have HB5 := Lib.hid hb5
                have HO5 := Lib.hid hown5'
                clear hown5 hown5' hgrow hb5
                go_wp2_with fail
                go_roundg (K.length - (j + 1))
                case measure => omega
                case rel => exact ⟨j + 1, y, by omega, rfl, HCH.out, by rw [HFL2.out]; exact HO5.out, HB5.out⟩
            · rw [List.drop_eq_nil_of_le (by omega)] at hch
              obtain rfl : x = -1 := hch
              rw [List.take_of_length_le (by omega), ← HFT.out] at hown7
              have HO7 := Lib.hid hown7
              have HB3 := Lib.hid hbe3
              clear hown7 hbe3 ha3
              go_wp2_with fail
              go_roundw
              case rel => exact ⟨i + 1, by omega, by go_num, HO7.out, HB3.out⟩
              case measure => simp [intOf]; omega
        · have hil : i = Lv.length := by omega
          rw [List.take_of_length_le (by omega), ← HNX.out] at hown6
          have HO6 := Lib.hid hown6
          obtain ⟨p6, c6, rfl⟩ := ownN_form hown6
          have HB2 := Lib.hid (HBE.out.trans (hbe2.mono hz))
          by_cases hem : L2 = []
          · have hcl : wo.cell? ⟨gl, Lv.length - 1, none⟩ = some (.int .i64 ((Lv[Lv.length - 1] : Nat) : Int)) := own_cell HO.out (Lv.length - 1) _ (by rw [List.getElem?_map, List.getElem?_eq_getElem (by omega)]; rfl)
            have c0 := (hbe2.cell (p := ⟨gl, Lv.length - 1, none⟩) hgl).trans hcl
            have HR := Lib.hid (HRET.out Lv[Lv.length - 1] hem (List.getLast_eq_getElem hne))
            have hz0 : L2.length = 0 := by rw [hem]; rfl
            generalize L2.length = z at *
            subst hz0
            generalize Lv[Lv.length - 1] = y at *
            obtain ⟨q, hq⟩ : ∃ q, Lv.length = q + 1 := ⟨Lv.length - 1, by omega⟩
            rw [hq] at c0 hi hgc hlen
            simp only [Nat.add_sub_cancel] at c0
            have hsub : IntKind.i64.wrap ((q : Int) + 1 - 1) = (q : Int) := by rw [show (q : Int) + 1 - 1 = (q : Int) by omega]; exact IntWalk.i64_in _ (by omega)
            rw [hq] at hil hlt
            rw [hq]
            clear hown6 hbe2 hcl hem hq
            go_wp2_with fail
            go_ret
            exact ⟨HB2.out, .inr HR.out⟩
          · have hzp : 0 < L2.length := List.length_pos_iff.2 hem
            have HEM := Lib.hid hem
            have HOL := Lib.hid (own_base HO6.out (Nat.le_trans hz (Nat.le_refl _)))
            clear hown6 hbe2 hem
            have HQ : Hid (∀ n, n = L2.length → n = L2.length) := Lib.hid fun _ h => h
            go_wp2_with fail
            go_roundg (1000 - (d + 1))
            case measure => omega
            case rel => exact ⟨d + 1, by omega, by rw [HL2.out]; exact HEM.out, by rw [HL2.out]; exact HOL.out, HB2.out⟩
end Go.Proofs.Ytcijjeflojaocaa
