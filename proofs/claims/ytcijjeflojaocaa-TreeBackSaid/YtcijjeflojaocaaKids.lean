/-
  Kids and Path of a tree; Ints.
-/
import Derived.Test.YtcijjeflojaocaaRead
namespace Go.Proofs.Ytcijjeflojaocaa
open Go.RowKit
set_option linter.unusedVariables false
set_option linter.unusedSimpArgs false

abbrev mkN : Nat → Value := fun x => .int .i64 (x : Int)
theorem oneN (x : Nat) : (mkN x).oneCell' = true := rfl
def lenOf : Value → Nat
  | .slice _ n _ => n
  | _ => 0
/-- A row of the call's own reads as these numbers. -/
abbrev OwnN (w : World) (base : Nat) (v : Value) (l : List Nat) : Prop := w.ownsRow base 3 1 v l.length (l.map mkN)
theorem ownN_form {w : World} {base : Nat} {v : Value} {l : List Nat} (h : OwnN w base v l) : ∃ p c, v = .slice p l.length c := own_form h
theorem one_news (w : World) (x : Value) (t : TypeId) (hx : x.oneCell' = true) : ∀ j u, ([x] : List Value)[j]? = some u → (w.alloc (.cells #[x] t)).cell? ((⟨w.heap.size, 0, none⟩ : Addr).add j) = some u :=
  World.news_of_block (cs := #[x]) (t := t) (fr := (0, 0)) (heap_alloc_new w _)
theorem below_own {N : Nat} {w w1 w2 : World} {base : Nat} {v : Value} {l : List Nat} (h : Below N w w1) (ho : OwnN w1 base v l) (hg : w1.grownBy w2 v.ownBlock) (hN : N ≤ base) (hs : N ≤ w1.heap.size) : Below N w w2 :=
  h.grown hg hs (own_below ho hN)

set_option maxHeartbeats 1000000 in
theorem kids_yes {T g c : Nat} {l : List Kn} (n : Nat) (w : World) (h : Arena w T g c l) (hn : n < l.length) (ks : List Nat) (hc : Chain (fun i => l[i]?.map Kn.next) l[n].first ks) (hks : ks.length ≤ 1000) :
    Calls Try.prog 15 #[.pointer (some ⟨T, 0, none⟩), .int .i64 n] w fun e w' => ∃ v, e = .returned v ∧ OwnN w' w.heap.size v ks ∧ Below w.heap.size w w' := by
  obtain ⟨i0, hi0, hy0, hy1, hy2⟩ := info_parts info3
  have H := Lib.hid (has_yes n w h hn)
  have HA := Lib.hid h
  obtain ⟨h1, hlc, _, _, _, h6⟩ := h
  obtain ⟨p, n', cc, ⟨a0, a1, a2, a3, a4, a5, a6, a7, a8⟩, hin⟩ := h6 n hn
  have hk1 : (0 : Int) ≤ (n : Int) := by omega
  have hk2 : (n : Int) < (l.length : Int) := by omega
  have HC := Lib.hid hc
  clear h6 hin hc a0 a1 a2 a3 a4 a6 a7 a8
  generalize l[n].first = x0 at *
  go_enter Try.func15, Try.ntmps15
  go_wp2_with fail
  refine H.out.mono ?_
  rintro e w1 ⟨rfl, rfl⟩
  go_wp2_with fail
  go_loopw [5, 6] (fun v iv wr => ∃ (j : Nat) (x : Int), j ≤ ks.length ∧ iv = .int .i64 x ∧ Chain (fun i => l[i]?.map Kn.next) x (ks.drop j) ∧ OwnN wr w.heap.size v (ks.take j) ∧ Below w.heap.size w wr) (fun v _ _ => ks.length - lenOf v)
  case atStart => exact ⟨0, x0, by omega, rfl, by simpa using HC.out, World.ownsRow_nil _ _ _ _, Below.refl _ _⟩
  case round =>
    obtain ⟨j, x, hj, rfl, hch, hown, hbe⟩ := hrel
    have hz := hbe.size
    by_cases hlt : j < ks.length
    · rw [List.drop_eq_getElem_cons hlt] at hch
      obtain ⟨rfl, y, hy, hch2⟩ := hch
      have hy' : l[ks[j]]?.map Kn.next = some y := hy
      have t1 := (HA.out.step hbe).top
      have hm := ((HA.out.step hbe).next hy').1
      have HO := Lib.hid hown
      have HB := Lib.hid hbe
      have HCH := Lib.hid hch2
      have hne : (((ks[j] : Nat) : Int) == -1) = false := by rw [beq_eq_false_iff_ne]; omega
      have hr1 : (0 : Int) ≤ ((ks[j] : Nat) : Int) := by omega
      have hr2 : ((ks[j] : Nat) : Int) < (l.length : Int) := by omega
      have HT : Hid (ks.take (j + 1) = ks.take j ++ [ks[j]]) := Lib.hid (List.take_succ_eq_append_getElem hlt)
      have htl : (ks.take j).length = j := by rw [List.length_take]; omega
      obtain ⟨p', c', rfl⟩ := ownN_form hown
      have HY := Lib.hid hy'
      have HO : Hid (wr.ownsRow w.heap.size 3 1 (.slice p' j c') j ((ks.take j).map mkN)) := Lib.hid (by have := HO.out; unfold OwnN at this; rwa [htl] at this)
      clear hown hbe hch2 hy hy' hm
      generalize ks[j] = k at *
      have hbe2 : Hid (Below w.heap.size w (wr.alloc (.cells #[.int .i64 (k : Int)] 3))) := Lib.hid (HB.out.alloc hz _)
      rw [htl]
      go_wp2_with (at_builtin; refine wpList_append_own _ rfl _ _ 22 rfl w.heap.size 3 i0 _ 1 8 Try.underlying22 hi0 hy0 hy1 hy2 rfl (by omega) _ j _ rfl (World.ownsRow.alloc HO.out _) ⟨wr.heap.size, 0, none⟩ 1 1 [.int .i64 (k : Int)] rfl rfl (one_news _ _ _ rfl) (by simp [Value.oneCell']) (by unfold maxLen; omega) (by omega) (by simp; omega) ?_)
      intro v2 w2 hown2 hgrow _
      have hown3 : OwnN w2 w.heap.size v2 (ks.take (j + 1)) := by
        unfold OwnN
        rw [HT.out, List.length_append, List.map_append, htl]
        simpa using hown2
      have hb3 := hbe2.out.grown hgrow (by simp; omega) (own_below HO.out (Nat.le_refl _))
      have t2 := (HA.out.step hb3).top
      have b6 := ((HA.out.step hb3).next HY.out).2
      have HO3 := Lib.hid hown3
      have HB3 := Lib.hid hb3
      obtain ⟨p2, c2, rfl⟩ := ownN_form hown3
      have htl2 : (ks.take (j + 1)).length = j + 1 := by rw [List.length_take]; omega
      have HO3 : Hid (w2.ownsRow w.heap.size 3 1 (.slice p2 (j + 1) c2) (j + 1) ((ks.take (j + 1)).map mkN)) := Lib.hid (by have := HO3.out; unfold OwnN at this; rwa [htl2] at this)
      clear hown2 hgrow hown3 hb3
      rw [htl2]
      go_wp2_with fail
      go_roundw
      case rel => exact ⟨j + 1, y, by omega, rfl, HCH.out, by unfold OwnN; rw [htl2]; exact HO3.out, HB3.out⟩
      case measure => simp [lenOf]; omega
    · rw [List.drop_eq_nil_of_le (by omega)] at hch
      obtain rfl : x = -1 := hch
      rw [List.take_of_length_le (by omega)] at hown
      have HO := Lib.hid hown
      have HB := Lib.hid hbe
      obtain ⟨p', c', rfl⟩ := ownN_form hown
      clear hown hbe
      go_wp2_with fail
      go_ret
      exact ⟨_, rfl, HO.out, HB.out⟩

/-- A climb through parents: from x up to where there is none. -/
def Climb (up : Nat → Option Int) : Int → List Nat → Prop
  | x, [] => x < 0
  | x, k :: r => x = (k : Int) ∧ ∃ y, up k = some y ∧ Climb up y r
theorem Arena.up {w : World} {T g c : Nat} {l : List Kn} (h : Arena w T g c l) {k : Nat} {y : Int} (hy : l[k]?.map Kn.up = some y) : k < l.length ∧ w.cell? ⟨g, k * 9 + 4, none⟩ = some (.int .i64 y) := by
  obtain ⟨x, hx, rfl⟩ := Option.map_eq_some_iff.1 hy
  obtain ⟨hm, rfl⟩ := List.getElem?_eq_some_iff.1 hx
  obtain ⟨_, _, _, ⟨_, _, _, _, b4, _, _, _, _⟩, _⟩ := h.2.2.2.2.2 k hm
  exact ⟨hm, b4⟩

set_option maxHeartbeats 1000000 in
theorem path_yes {T g c : Nat} {l : List Kn} (n : Int) (w : World) (h : Arena w T g c l) (ks : List Nat) (hc : Climb (fun i => l[i]?.map Kn.up) n ks) (hks : ks.length ≤ 1000) :
    Calls Try.prog 18 #[.pointer (some ⟨T, 0, none⟩), .int .i64 n] w fun e w' => ∃ v, e = .returned v ∧ OwnN w' w.heap.size v ks ∧ Below w.heap.size w w' := by
  obtain ⟨i0, hi0, hy0, hy1, hy2⟩ := info_parts info3
  have HA := Lib.hid h
  have HC := Lib.hid hc
  clear h hc
  go_enter Try.func18, Try.ntmps18
  go_wp2_with fail
  go_loopw [1, 5] (fun iv v wr => ∃ (j : Nat) (x : Int), j ≤ ks.length ∧ iv = .int .i64 x ∧ Climb (fun i => l[i]?.map Kn.up) x (ks.drop j) ∧ OwnN wr w.heap.size v (ks.take j) ∧ Below w.heap.size w wr) (fun _ v _ => ks.length - lenOf v)
  case atStart => exact ⟨0, n, by omega, rfl, by simpa using HC.out, World.ownsRow_nil _ _ _ _, Below.refl _ _⟩
  case round =>
    obtain ⟨j, x, hj, rfl, hch, hown, hbe⟩ := hrel
    have hz := hbe.size
    have ha := HA.out.step hbe
    by_cases hlt : j < ks.length
    · rw [List.drop_eq_getElem_cons hlt] at hch
      obtain ⟨rfl, y, hy, hch2⟩ := hch
      have hy' : l[ks[j]]?.map Kn.up = some y := hy
      have hm := (ha.up hy').1
      have H := Lib.hid (has_yes ks[j] wr ha hm)
      have HO := Lib.hid hown
      have HB := Lib.hid hbe
      have HCH := Lib.hid hch2
      have hr1 : (0 : Int) ≤ ((ks[j] : Nat) : Int) := by omega
      have hr2 : ((ks[j] : Nat) : Int) < (l.length : Int) := by omega
      have HT : Hid (ks.take (j + 1) = ks.take j ++ [ks[j]]) := Lib.hid (List.take_succ_eq_append_getElem hlt)
      have htl : (ks.take j).length = j := by rw [List.length_take]; omega
      obtain ⟨p', c', rfl⟩ := ownN_form hown
      have HY := Lib.hid hy'
      have HO : Hid (wr.ownsRow w.heap.size 3 1 (.slice p' j c') j ((ks.take j).map mkN)) := Lib.hid (by have := HO.out; unfold OwnN at this; rwa [htl] at this)
      clear hown hbe hch2 hy hy' hm ha
      generalize ks[j] = k at *
      have hbe2 : Hid (Below w.heap.size w (wr.alloc (.cells #[.int .i64 (k : Int)] 3))) := Lib.hid (HB.out.alloc hz _)
      rw [htl]
      go_wp2_with fail
      refine H.out.mono ?_
      rintro e w1 ⟨rfl, rfl⟩
      go_wp2_with (at_builtin; refine wpList_append_own _ rfl _ _ 22 rfl w.heap.size 3 i0 _ 1 8 Try.underlying22 hi0 hy0 hy1 hy2 rfl (by omega) _ j _ rfl (World.ownsRow.alloc HO.out _) ⟨wr.heap.size, 0, none⟩ 1 1 [.int .i64 (k : Int)] rfl rfl (one_news _ _ _ rfl) (by simp [Value.oneCell']) (by unfold maxLen; omega) (by omega) (by simp; omega) ?_)
      intro v2 w2 hown2 hgrow _
      have hown3 : OwnN w2 w.heap.size v2 (ks.take (j + 1)) := by
        unfold OwnN
        rw [HT.out, List.length_append, List.map_append, htl]
        simpa using hown2
      have hb3 := hbe2.out.grown hgrow (by simp; omega) (own_below HO.out (Nat.le_refl _))
      have t2 := (HA.out.step hb3).top
      have b6 := ((HA.out.step hb3).up HY.out).2
      have HO3 := Lib.hid hown3
      have HB3 := Lib.hid hb3
      obtain ⟨p2, c2, rfl⟩ := ownN_form hown3
      have htl2 : (ks.take (j + 1)).length = j + 1 := by rw [List.length_take]; omega
      have HO3 : Hid (w2.ownsRow w.heap.size 3 1 (.slice p2 (j + 1) c2) (j + 1) ((ks.take (j + 1)).map mkN)) := Lib.hid (by have := HO3.out; unfold OwnN at this; rwa [htl2] at this)
      clear hown2 hgrow hown3 hb3
      rw [htl2]
      go_wp2_with fail
      go_roundw
      case rel => exact ⟨j + 1, y, by omega, rfl, HCH.out, by unfold OwnN; rw [htl2]; exact HO3.out, HB3.out⟩
      case measure => simp [lenOf]; omega
    · rw [List.drop_eq_nil_of_le (by omega)] at hch
      have hx : x < 0 := hch
      have H := Lib.hid (has_no x wr ha (.inl hx))
      rw [List.take_of_length_le (by omega)] at hown
      have HO := Lib.hid hown
      have HB := Lib.hid hbe
      obtain ⟨p', c', rfl⟩ := ownN_form hown
      clear hown hbe ha hch
      go_wp2_with fail
      refine H.out.mono ?_
      rintro e w1 ⟨rfl, rfl⟩
      go_wp2_with fail
      go_ret
      exact ⟨_, rfl, HO.out, HB.out⟩

/-- Two lists of numbers compared. -/
def sameI (a b : List Int) : Bool := a == b
theorem sameI_len {a b : List Int} (h : a.length ≠ b.length) : sameI a b = false := by
  unfold sameI; rw [beq_eq_false_iff_ne]; intro e; exact h (by rw [e])
theorem sameI_at {a b : List Int} {k : Nat} (h1 : k < a.length) (h2 : k < b.length) (h : a[k] ≠ b[k]) : sameI a b = false := by
  unfold sameI; rw [beq_eq_false_iff_ne]; intro e; subst e; exact h rfl
theorem sameI_all {a b : List Int} (h : a.length = b.length) (hall : ∀ i (h1 : i < a.length) (h2 : i < b.length), a[i] = b[i]) : sameI a b = true := by
  unfold sameI; rw [beq_iff_eq]; exact List.ext_getElem h hall

set_option maxHeartbeats 1000000 in
theorem ints_any (p : Option Addr) (n c : Nat) (l : List Int) (p' : Option Addr) (n' c' : Nat) (l' : List Int) (w : World) (h : In mkI w p n c l) (h' : In mkI w p' n' c' l') (hn : n ≤ 1000000) :
    Calls Try.prog 23 #[.slice p n c, .slice p' n' c'] w fun e w' => e = .returned (.bool (sameI l l')) ∧ Below w.heap.size w w' := by
  by_cases hln : n = n'
  · subst hln
    have hl := h.1
    have hl' := h'.1
    have HA := Lib.hid h
    have HA' := Lib.hid h'
    have HL := Lib.hid hl
    have HL' := Lib.hid hl'
    clear h h' hl hl'
    have hnz : (0 : Int) ≤ (n : Int) := by omega
    go_enter Try.func23, Try.ntmps23
    go_wp2_with fail
    go_loopw [13] (fun i wr => ∃ k : Nat, k ≤ n ∧ i = .int .i64 k ∧ Hid (∀ i (h1 : i < l.length) (h2 : i < l'.length), i < k → l[i] = l'[i]) ∧ ∃ m, wr = w.drewN m) (fun i _ => n - (intOf i).toNat)
    case atStart => exact ⟨0, by omega, rfl, Lib.hid (fun i _ _ h => by omega), 0, rfl⟩
    case round =>
      obtain ⟨k, hk, rfl, HE, m, rfl⟩ := hrel
      by_cases hlt : k < n
      · obtain ⟨b, off, rfl, hc1, hb, hat⟩ := HA.out.2.resolve_left (by omega)
        obtain ⟨b', off', rfl, hc1', hb', hat'⟩ := HA'.out.2.resolve_left (by omega)
        have hkl : k < l.length := by rw [← HL.out]; exact hlt
        have hkl' : k < l'.length := by rw [← HL'.out]; exact hlt
        have c0 : w.cell? ⟨b, off + k, none⟩ = some (.int .i64 l[k]) := hat k hkl
        have c1 : w.cell? ⟨b', off' + k, none⟩ = some (.int .i64 l'[k]) := hat' k hkl'
        have hk1 : (0 : Int) ≤ (k : Int) := by omega
        have hk2 : (k : Int) < (n : Int) := by omega
        by_cases heq : l[k] = l'[k]
        · have HE2 : Hid (∀ i (h1 : i < l.length) (h2 : i < l'.length), i < k + 1 → l[i] = l'[i]) := Lib.hid fun i h1 h2 hi => by
            rcases Nat.lt_or_ge i k with h3 | h3
            · exact HE.out i h1 h2 h3
            · obtain rfl : i = k := by omega
              exact heq
          rw [← heq] at c1
          clear heq hat hat'
          generalize l[k] = t at *
          go_wp2
          go_quiet (fail)
          go_wp2
          go_roundw
          case rel => exact ⟨k + 1, by omega, by go_num, HE2, _, rfl⟩
          case measure => simp [intOf]; omega
        · have HR := Lib.hid (sameI_at hkl hkl' heq)
          clear hat hat'
          have hne : (l[k] == l'[k]) = false := by rw [beq_eq_false_iff_ne]; exact heq
          generalize l[k] = t at *
          generalize l'[k] = t' at *
          go_wp2
          go_quiet (fail)
          go_wp2
          go_ret
          exact ⟨ret_bool HR.out.symm, below_drewN (below_drewN (Below.refl _ _) _) _⟩
      · have HR : Hid (sameI l l' = true) := Lib.hid (sameI_all (by rw [← HL.out, ← HL'.out]) fun i h1 h2 => HE.out i h1 h2 (by rw [← HL.out] at h1; omega))
        go_wp2
        go_ret
        exact ⟨ret_bool HR.out.symm, below_drewN (Below.refl _ _) _⟩
  · have HR : Hid (sameI l l' = false) := Lib.hid (sameI_len (by rw [← h.1, ← h'.1]; exact hln))
    have hne : ((n : Int) == (n' : Int)) = false := by rw [beq_eq_false_iff_ne]; omega
    clear h h'
    go_enter Try.func23, Try.ntmps23
    go_wp2
    go_ret
    exact ⟨ret_bool HR.out.symm, Below.refl _ _⟩
end Go.Proofs.Ytcijjeflojaocaa
