/-
  The document's Sorted is ssort. (Laid by a program: the walk behind the inner loop stands three times.)
-/
import Derived.Test.YtficgilapbmmpaaAhead
import Derived.Test.YtficgilapbmmpaaEditSortedM
import Derived.WalkSpells
namespace Go.Proofs.Ytficgilapbmmpaa
open Go.RowKit
set_option linter.unusedVariables false

theorem split_order (x : Ed) : ∀ T : List Ed, InOrder T → ∃ A B, T = A ++ B ∧ (∀ y ∈ A, ¬ ltE x y) ∧ (∀ y ∈ B, ltE x y)
  | [], _ => ⟨[], [], rfl, fun y h => absurd h (by simp), fun y h => absurd h (by simp)⟩
  | y :: r, h => by
    by_cases hy : ltE x y
    · refine ⟨[], y :: r, rfl, fun y h => absurd h (by simp), fun z hz => ?_⟩
      rcases List.mem_cons.1 hz with rfl | hz
      · exact hy
      · exact lt_of_lt_nlt hy (h.1 z hz)
    · obtain ⟨A, B, h1, h2, h3⟩ := split_order x r h.2
      refine ⟨y :: A, B, by rw [h1]; rfl, fun z hz => ?_, h3⟩
      rcases List.mem_cons.1 hz with rfl | hz
      · exact hy
      · exact h2 z hz
theorem ssort_put (L : List Ed) (x : Ed) (A B : List Ed) (h : ssort L = A ++ B) (h1 : ∀ y ∈ A, ¬ ltE x y) (h2 : ∀ y ∈ B, ltE x y) : ssort (L ++ [x]) = A ++ x :: B := by
  have ho := ssort_order L
  have hi := ssort_inner (A := L) (B := ssort L) (ssort_fix ho).symm [] [x]
  rw [List.nil_append, List.nil_append] at hi
  rw [hi, h]
  rw [h] at ho
  exact ssort_back ho h1 h2

def OwnE (w : World) (base : Nat) (v : Value) (T : List Ed) : Prop := w.ownsRow base 55 3 v T.length (edCells T)
theorem own_e {w : World} {base base' : Nat} {v : Value} {n : Nat} {xs : List Value} (h : w.ownsRow base 55 3 v n xs) (hb : base' ≤ base) (T : List Ed) (hn : n = T.length) (hx : xs = edCells T) : OwnE w base' v T := by
  subst hn hx
  refine ⟨h.1, ?_⟩
  rcases h.2 with h1 | ⟨g, c, cur, h1, h2, h3⟩
  · exact .inl h1
  · exact .inr ⟨g, c, cur, h1, by omega, h3⟩
theorem ed_of_row {w : World} {base : Nat} {v : Value} {T : List Ed} (h : OwnE w base v T) : ∃ p d, v = .slice p T.length d ∧ EditsIn w p T.length d T := by
  have hv : ∃ p d, v = .slice p T.length d := by
    rcases h.2 with ⟨h0, h1⟩ | ⟨g', c', cur, hv, _⟩
    · exact ⟨none, 0, by rw [h0, h1]⟩
    · exact ⟨_, _, hv⟩
  obtain ⟨p, d, rfl⟩ := hv
  exact ⟨p, d, rfl, editsIn_of_row h⟩
theorem edits_take {w : World} {p : Option Addr} {n c : Nat} {l : List Ed} (h : EditsIn w p n c l) (j : Nat) (hj : j ≤ n) : EditsIn w p j c (l.take j) := by
  obtain ⟨hn, h0 | ⟨b, off, rfl, hc, hb, hat⟩⟩ := h
  · exact ⟨by simp; omega, .inl (by omega)⟩
  · refine ⟨by simp; omega, .inr ⟨b, off, rfl, by omega, hb, fun i hi => ?_⟩⟩
    rw [List.getElem_take]
    exact hat i (by simp at hi; omega)
theorem edits_from {w : World} {p : Option Addr} {n c : Nat} {l : List Ed} (i : TypeInfo) (hi : Try.prog.info? 55 = some i) (hs : i.size = 3) (h : EditsIn w p n c l) (k : Nat) (hk : k ≤ n) :
    ∃ p', (∀ w, (Instr.slice 22 (.slice p n c) (some (.int .i64 (k : Int))) none none).run Try.prog w = .ok (.slice p' (n - k) (c - k)) w) ∧ EditsIn w p' (n - k) (c - k) (l.drop k) := by
  refine ⟨if c = k then p else p.map (fun x => x.add (k * 3)), fun w => ?_, ?_⟩
  · have hc : n ≤ c ∨ n = 0 := by
      rcases h.2 with h0 | ⟨b, off, _, hc, _⟩
      · exact .inr h0
      · exact .inl hc
    have hkc : k ≤ c := by omega
    simp [Instr.slice, run_underlying Try.underlying22, Instr.sliceBounds, Instr.sliceBound, asIntOf, sizeOf, typeInfo, hi, hs, hk, go_sem]
  · obtain ⟨hn, h0 | ⟨b, off, rfl, hc, hb, hat⟩⟩ := h
    · refine ⟨by simp [hn], .inl (by omega)⟩
    · by_cases hck : c = k
      · rw [if_pos hck]
        exact ⟨by simp [hn], .inl (by omega)⟩
      · rw [if_neg hck]
        have ha : Option.map (fun x : Addr => x.add (k * 3)) (some (⟨b, off, none⟩ : Addr)) = some ⟨b, off + k * 3, none⟩ := by
          simp only [Option.map_some, Option.some.injEq]
          unfold Addr.add; split <;> simp_all
        rw [ha]
        refine ⟨by simp [hn], .inr ⟨b, off + k * 3, rfl, by omega, hb, fun i hi => ?_⟩⟩
        have := hat (k + i) (by simp at hi; omega)
        rw [List.getElem_drop, show off + k * 3 + i * 3 = off + (k + i) * 3 by omega]
        exact this
theorem run_append_none_ed {P : Program} (w : World) (base : Nat) (t ty e : TypeId) (i : TypeInfo) (size : Nat) (ht : P.underlying t = some (.slice e)) (hi : P.info? e = some i)
    (v : Value) (n : Nat) (xs : List Value) (hown : w.ownsRow base e size v n xs) (c : Nat) :
    (Builtin.append_ #[t, t] ty #[v, .slice none 0 c]).run P w = .ok v w := by
  rcases hown.2 with ⟨rfl, rfl⟩ | ⟨g, cap, cur, rfl, _, _, hnc, _⟩
  · simp [Builtin.append_, run_underlying ht, sizeOf, typeInfo, hi, Builtin.lenOf, Builtin.firstCells]
  · simp [Builtin.append_, run_underlying ht, sizeOf, typeInfo, hi, Builtin.lenOf, Builtin.firstCells, hnc, storeCells]
theorem run_append_ed {P : Program} (w : World) (base : Nat) (t ty e : TypeId) (i : TypeInfo) (z : Value) (bytes : Nat) (ht : P.underlying t = some (.slice e)) (hi : P.info? e = some i) (hz : i.zero = some z)
    (hsize : i.size = 3) (hby : i.bytes = bytes) (hzs : z.cells.size = 3)
    (v : Value) (n : Nat) (xs : List Value) (hown : w.ownsRow base e 3 v n xs)
    (p : Option Addr) (m c : Nat) (l : List Ed) (hin : EditsIn w p m c l)
    (h63 : n + m ≤ maxLen) (hbytes : (n + m) * bytes ≤ 140737488355328) (hbase : base ≤ w.heap.size) :
    ∃ v' w', (Builtin.append_ #[t, t] ty #[v, .slice p m c]).run P w = .ok v' w' ∧ w'.ownsRow base e 3 v' (n + m) (xs ++ edCells l) ∧ w.grownBy w' v.ownBlock := by
  cases p with
  | none =>
    obtain ⟨hm, h0 | ⟨b, off, hp, _⟩⟩ := hin
    · subst h0
      have : l = [] := List.length_eq_zero_iff.1 hm.symm
      subst this
      refine ⟨v, w, run_append_none_ed w base t ty e i 3 ht hi v n xs hown c, by simpa [edCells] using hown, grown_same w _⟩
    · simp at hp
  | some ad =>
    have hnews : ∀ j u, (edCells l)[j]? = some u → w.cell? (ad.add j) = some u := by
      obtain ⟨hm, h0 | ⟨b, off, hp, _, _, hat⟩⟩ := hin
      · have : l = [] := List.length_eq_zero_iff.1 (by omega)
        subst this
        intro j u h; simp [edCells] at h
      · obtain rfl : ad = ⟨b, off, none⟩ := by simpa using hp
        exact news_of w b off l hat
    obtain ⟨v', w', h1, h2, h3, _⟩ := run_append_own (P := P) w base t ty e i z 3 bytes ht hi hz hsize hby hzs (by omega) v n xs hown ad m c (edCells l) (by rw [edCells_length, hin.1]) hnews (edCells_one l) h63 hbytes hbase
    exact ⟨v', w', h1, h2, h3⟩
theorem wpList_append_ed {P : Program} (w : World) {ops : Array Oper} {rest : List Oper} {o : Oper} {a : Act} {Q : Exit → Act → World → Prop} (hgd : o.guard = none) (s x : Operand) (t : TypeId)
    (ho : o.op = .call { callee := .builtin .append, args := #[s, x], argTypes := #[t, t] })
    (base : Nat) (e : TypeId) (i : TypeInfo) (z : Value) (bytes : Nat) (ht : P.underlying t = some (.slice e)) (hi : P.info? e = some i) (hz : i.zero = some z)
    (hsize : i.size = 3) (hby : i.bytes = bytes) (hzs : z.cells.size = 3)
    (v : Value) (n : Nat) (xs : List Value) (hs : a.eval s = v) (hown : w.ownsRow base e 3 v n xs)
    (p : Option Addr) (m c : Nat) (l : List Ed) (hx : a.eval x = .slice p m c) (hin : EditsIn w p m c l)
    (h63 : n + m ≤ maxLen) (hbytes : (n + m) * bytes ≤ 140737488355328) (hbase : base ≤ w.heap.size)
    (h : ∀ v' w', w'.ownsRow base e 3 v' (n + m) (xs ++ edCells l) → w.grownBy w' v.ownBlock → wpList P ops Q rest (a.put o.dst v') w') : wpList P ops Q (o :: rest) a w := by
  obtain ⟨v', w', hr, h2, h3⟩ := run_append_ed (P := P) w base t o.type e i z bytes ht hi hz hsize hby hzs v n xs hown p m c l hin h63 hbytes hbase
  refine wpList_plain hgd fun K hK => ?_
  unfold Oper.wp execOp
  simp only [ho, resolve, invoke, builtin, Sem.run_bind, Sem.run_pure, Result.andThen_ok, List.map_toArray, List.map_cons, List.map_nil, hs, hx, hr]
  exact hK _ _ (h v' w' h2 h3)
theorem one_ed (w : World) (x : Ed) : ∀ j u, (edCells [x])[j]? = some u → (w.alloc (.cells #[.int .i64 x.a, .int .i64 x.e, .string x.t] 55)).cell? ((⟨w.heap.size, 0, none⟩ : Addr).add j) = some u :=
  news_of _ _ _ [x] (fun i hi => by obtain rfl : i = 0 := by { simp at hi; exact hi }; exact ⟨by simp [go_sem], by simp [go_sem], by simp [go_sem]⟩)
theorem below_fresh {w w1 : World} (o : Obj) {n c : Nat} (hg : (w.alloc o).grownBy w1 (Value.slice (some ⟨w.heap.size, 0, none⟩) n c).ownBlock) : Below w.heap.size w w1 :=
  ((Below.refl _ w).alloc (Nat.le_refl _) o).grown hg (by simp) (fun k hk => by simp [Value.ownBlock] at hk; omega)
theorem below_rowE {base : Nat} {w wr w1 : World} {n : Nat} {v : Value} {xs : List Value} (hb : Below base w wr) (hz : base ≤ wr.heap.size) (o : Obj) (ho : wr.ownsRow base 55 3 v n xs) (hg : (wr.alloc o).grownBy w1 v.ownBlock) : Below base w w1 :=
  (hb.alloc hz o).grown hg (by simp; omega) (fun k hk => (ho.lt k hk).1)

/-- What a round of the reference's Sorted knows. -/
def RefRel (l : List Ed) (n : Nat) (w : World) (v i : Value) (wr : World) : Prop :=
  ∃ k : Nat, k ≤ n ∧ i = .int .i64 (k : Int) ∧ OwnE wr w.heap.size v (ssort (l.take k)) ∧ Below w.heap.size w wr

set_option maxRecDepth 100000 in
set_option maxHeartbeats 8000000 in
theorem refSorted_some (l : List Ed) (b off c n : Nat) (w : World) (hat : EditsAt w b off l) (hb : b < w.heap.size) (hc : n ≤ c) (hl : n ≤ 60) (hn : l.length = n) :
    Calls Try.prog 18 #[.slice (some ⟨b, off, none⟩) n c] w fun e w' => ∃ v', e = .returned v' ∧ OwnE w' w.heap.size v' (ssort l) ∧ Below w.heap.size w w' := by
  obtain ⟨i0, hi0, hy0, hy1, hy2⟩ := info_parts info55
  have H := Lib.hid hat
  have HN := Lib.hid hn
  have HV : Hid (RefRel l n w (.slice none 0 0) (.int .i64 0) w) := Lib.hid ⟨0, by omega, rfl, World.ownsRow_nil _ _ _ _, Below.refl _ _⟩
  clear hat hn
  go_enter Try.func18, Try.ntmps18
  go_wp2
  go_loopw [3, 4] (fun v i wr => RefRel l n w v i wr) (fun _ i _ => n - (intOf i).toNat)
  case atStart => exact HV.out
  case round =>
    obtain ⟨k, hk, hi, hown, hbe⟩ := hrel
    subst hi
    have hz := hbe.size
    have HB := Lib.hid hbe
    clear HV
    by_cases hlt : k < n
    · have hkl : Hid (k < l.length) := Lib.hid (by rw [HN.out]; exact hlt)
      have HX : ∀ w1, Below wr.heap.size wr w1 → w1.cell? ⟨b, off + k * 3, none⟩ = some (.int .i64 (l[k]'(hkl.out)).a) ∧ w1.cell? ⟨b, off + k * 3 + 1, none⟩ = some (.int .i64 (l[k]'(hkl.out)).e) ∧ w1.cell? ⟨b, off + k * 3 + 2, none⟩ = some (.string (l[k]'(hkl.out)).t) := fun w1 h1 => cells_at H.out hb (hbe.trans (h1.mono hz)) k hkl.out
      have HT : Hid (l.take (k + 1) = l.take k ++ [l[k]'(hkl.out)]) := Lib.hid (List.take_succ_eq_append_getElem hkl.out)
      generalize l[k]'(hkl.out) = x at *
      have HXH := Lib.hid HX
      clear HX
      obtain ⟨A, B, hA, hlo, hhi⟩ := split_order x (ssort (l.take k)) (ssort_order _)
      have HA2 := Lib.hid (ssort_put (l.take k) x A B hA hlo hhi)
      have hTlen : (ssort (l.take k)).length ≤ 60 := by rw [ssort_length]; have := List.length_take_le k l; omega
      generalize ssort (l.take k) = T at *
      have HO := Lib.hid hown
      obtain ⟨p, d, hv, hin⟩ := ed_of_row hown
      subst hv
      have HIN := Lib.hid hin
      have HA := Lib.hid hA
      have HLO := Lib.hid hlo
      have HHI := Lib.hid hhi
      have HAL : Hid (A.length ≤ T.length) := Lib.hid (by rw [hA]; simp)
      rw [← HT.out] at HA2
      clear hbe hown hin hA hlo hhi
      obtain ⟨wo, hwo⟩ : ∃ wo : World, wo = wr := ⟨_, rfl⟩
      subst hwo
      rcases HIN.out.2 with h0 | ⟨b', o', hp, hcd, hb', hat'⟩
      · have hT0 := Lib.hid h0
        have hj : Hid ((0 : Nat) = A.length) := Lib.hid (by have := HAL.out; omega)
        obtain ⟨j, hj0⟩ : ∃ j : Nat, j = 0 := ⟨_, rfl⟩
        rw [← hj0] at hj
        have HJ0 : Hid (((T.length : Nat) : Int) = (j : Int)) := Lib.hid (by omega)
        have hj00 : ¬ 0 < j := by omega
        clear h0 hj0
        go_wp2_with fail
        rw [HJ0.out]
        refine wp_loop_rounds 1 ?_
        rw [rounds_succ]
        go_wp2_with fail
        refine wp_region_quiet_below (by kernel_rfl) (by kernel_rfl) ?_
        repeat (go_big_quiet_step (fail))
        refine wpQuiet_nil ?_
        intro w2 hw2
        have hb2 : Below wo.heap.size wo w2 := by obtain ⟨q, rfl⟩ := hw2; exact below_regrown _ _ _
        have HW := Lib.hid hb2
        clear hb2 hw2
        have hz2 : wo.heap.size ≤ w2.heap.size := HW.out.size
        have HAT : Hid (T.take j = A) := Lib.hid (by rw [HA.out, hj.out]; exact List.take_left)
        have HBT : Hid (T.drop j = B) := Lib.hid (by rw [HA.out, hj.out]; exact List.drop_left)
        have hjT : j ≤ T.length := by have := hj.out; have := HAL.out; omega
        have hin0 := HIN.out.step HW.out
        have hin1 := edits_take hin0 j hjT
        rw [HAT.out] at hin1
        obtain ⟨p2, hsl, hin2⟩ := edits_from i0 hi0 hy1 hin0 j hjT
        rw [HBT.out] at hin2
        have HI1 := Lib.hid (hin1.step ((Below.refl w2.heap.size w2).alloc (Nat.le_refl _) (.cells #[] 55)))
        have HI2 := Lib.hid hin2
        have HTJ : Hid (T.length - j = B.length) := Lib.hid (by rw [← HBT.out, List.length_drop])
        have hTB : T.length - j ≤ 60 := by omega
        clear hin0 hin1 hin2
        go_wp2_with (at_builtin; refine wpList_append_ed _ rfl (.tmp 31) (.tmp 34) 22 rfl w2.heap.size 55 i0 (.agg #[.int .i64 0, .int .i64 0, .string ByteArray.empty]) 32 Try.underlying22 hi0 hy0 hy1 hy2 rfl _ 0 [] rfl (World.ownsRow_made w2 #[] 0 (Nat.le_refl _) (Nat.zero_le _) rfl) p j d A rfl HI1.out (by unfold maxLen; omega) (by omega) (by simp) ?_)
        intro v1 w3 hown1 hgrow1
        have hb1 := below_fresh _ hgrow1
        have hz3 := hb1.size
        have HO1 : Hid (w3.ownsRow w2.heap.size 55 3 v1 j (edCells A)) := Lib.hid (by simpa using hown1)
        have HB1 := Lib.hid hb1
        obtain ⟨f0, f1, f2⟩ := HXH.out w3 (HW.out.trans (hb1.mono hz2))
        clear hown1 hgrow1 hb1 HI1
        go_wp2_with (at_builtin; refine wpList_append_own _ rfl _ _ 22 rfl w2.heap.size 55 i0 (.agg #[.int .i64 0, .int .i64 0, .string ByteArray.empty]) 3 32 Try.underlying22 hi0 hy0 hy1 hy2 rfl (by omega) _ j (edCells A) rfl (World.ownsRow.alloc HO1.out _) ⟨_, 0, none⟩ 1 1 (edCells [x]) rfl rfl (one_ed _ _) (edCells_one _) (by unfold maxLen; omega) (by omega) (by simp; omega) ?_)
        intro v2 w4 hown2 hgrow2 _
        have hb2 := below_rowE HB1.out hz3 _ HO1.out hgrow2
        have hz4 := hb2.size
        have HO2 := Lib.hid hown2
        have HB2 := Lib.hid hb2
        have HI3 := Lib.hid (HI2.out.step hb2)
        clear hown2 hgrow2 hb2 HB1 HO1 HI2 f0 f1 f2
        go_wp2_with (at_builtin; refine wpList_append_ed _ rfl (.tmp 43) (.tmp 46) 22 rfl w2.heap.size 55 i0 (.agg #[.int .i64 0, .int .i64 0, .string ByteArray.empty]) 32 Try.underlying22 hi0 hy0 hy1 hy2 rfl _ (j + 1) _ rfl HO2.out p2 (T.length - j) (d - j) B rfl HI3.out (by unfold maxLen; omega) (by omega) (by omega) ?_)
        intro v3 w5 hown3 hgrow3
        have HB3 := Lib.hid (HB.out.trans ((HW.out.trans ((HB2.out.grown hgrow3 hz4 (fun q hq => (World.ownsRow.lt HO2.out q hq).1)).mono hz2)).mono hz))
        have HO3 : Hid (OwnE w5 w.heap.size v3 (ssort (l.take (k + 1)))) := Lib.hid (own_e hown3 (by omega) _ (by rw [HA2.out, HTJ.out, hj.out]; simp; omega) (by rw [HA2.out]; simp [edCells_append, edCells]))
        have HREL : Hid (RefRel l n w v3 (.int .i64 ((k + 1 : Nat) : Int)) w5) := Lib.hid ⟨k + 1, by omega, rfl, HO3.out, HB3.out⟩
        clear hown3 hgrow3 HO2 HI3
        go_wp2_with fail
        go_roundw
        case rel => exact HREL.out
        case measure => simp [intOf]; omega
      · subst hp
        have HATT := Lib.hid hat'
        clear hat'
        go_wp2_with fail
        go_loopw [5] (fun v wr => ∃ j : Nat, A.length ≤ j ∧ j ≤ T.length ∧ v = .int .i64 (j : Int) ∧ Below wo.heap.size wo wr) (fun v _ => (intOf v).toNat)
        case atStart => exact ⟨T.length, HAL.out, Nat.le_refl _, rfl, Below.refl _ _⟩
        case round =>
          obtain ⟨j, hj1, hj2, rfl, hbw⟩ := hrel
          have HBW := Lib.hid hbw
          have hzw := hbw.size
          by_cases hj0 : 0 < j
          · obtain ⟨q, hq⟩ : ∃ q, j = q + 1 := ⟨j - 1, by omega⟩
            have hqT : Hid (q < T.length) := Lib.hid (by omega)
            obtain ⟨e0, e1, e2⟩ := (HATT.out.step hb' hbw) q hqT.out
            obtain ⟨f0, f1, f2⟩ := HXH.out wr hbw
            have hpj : IntKind.i64.wrap ((j : Int) - 1) = ((q : Nat) : Int) := by rw [IntWalk.i64_in _ (by omega)]; omega
            have hqn : q < T.length := hqT.out
            have hgl : b' < wr.heap.size := by omega
            have hbl : b < wr.heap.size := by omega
            have HQ := Lib.hid hq
            have HYB : Hid (A.length ≤ q → ltE x (T[q]'(hqT.out))) := Lib.hid (fun h => HHI.out _ (by
              have h2 := HA.out
              have : T[q]'(hqT.out) = (A ++ B)[q]'(by rw [← h2]; exact hqT.out) := by congr 1
              rw [this, List.getElem_append_right (by omega)]
              exact List.getElem_mem _))
            have HYA : Hid (q < A.length → ¬ ltE x (T[q]'(hqT.out))) := Lib.hid (fun h => HLO.out _ (by
              have h2 := HA.out
              have : T[q]'(hqT.out) = (A ++ B)[q]'(by rw [← h2]; exact hqT.out) := by congr 1
              rw [this, List.getElem_append_left (by omega)]
              exact List.getElem_mem _))
            generalize T[q]'(hqT.out) = y at *
            clear hbw hq
            by_cases hgt : A.length < j
            · have hd : decide (ltE x y) = true := decide_eq_true (HYB.out (by have := HQ.out; omega))
              go_wp2_with fail
              go_region_held3 (fun w' => w'.cell? ⟨b', o' + q * 3, none⟩ = some (.int .i64 y.a) ∧ w'.cell? ⟨b', o' + q * 3 + 1, none⟩ = some (.int .i64 y.e) ∧ w'.cell? ⟨b', o' + q * 3 + 2, none⟩ = some (.string y.t) ∧ w'.cell? ⟨b, off + k * 3, none⟩ = some (.int .i64 x.a) ∧ w'.cell? ⟨b, off + k * 3 + 1, none⟩ = some (.int .i64 x.e) ∧ w'.cell? ⟨b, off + k * 3 + 2, none⟩ = some (.string x.t))
                (first
                  | go_keep
                  | (go_split_ands
                     refine ⟨?_, ?_, ?_, ?_, ?_, ?_⟩ <;> (first | (rw [hbp.cell (by simpa using hgl)]; assumption) | (rw [hbp.cell (by simpa using hbl)]; assumption))))
                ((first
                  | (go_at_call 36; refine (ahead_any x y _).mono ?_; rintro e wp ⟨rfl, hbp⟩)))
              rename_i hS
              have hb2 : Below wr.heap.size wr wp := ((Below.refl _ _).drew).trans hbp
              have HB2 := Lib.hid (HBW.out.trans (hb2.mono hzw))
              clear hS hbp e0 e1 e2 f0 f1 f2 hb2
              go_wp2_with fail
              go_roundw
              case rel => exact ⟨q, by have := HQ.out; omega, by have := HQ.out; omega, by go_num, HB2.out⟩
              case measure => simp [intOf]; have := HQ.out; omega
            · have hj : Hid (j = A.length) := Lib.hid (by omega)
              have hd : decide (ltE x y) = false := decide_eq_false (HYA.out (by have := HQ.out; have := hj.out; omega))
              go_wp2_with fail
              go_region_held3 (fun w' => w'.cell? ⟨b', o' + q * 3, none⟩ = some (.int .i64 y.a) ∧ w'.cell? ⟨b', o' + q * 3 + 1, none⟩ = some (.int .i64 y.e) ∧ w'.cell? ⟨b', o' + q * 3 + 2, none⟩ = some (.string y.t) ∧ w'.cell? ⟨b, off + k * 3, none⟩ = some (.int .i64 x.a) ∧ w'.cell? ⟨b, off + k * 3 + 1, none⟩ = some (.int .i64 x.e) ∧ w'.cell? ⟨b, off + k * 3 + 2, none⟩ = some (.string x.t))
                (first
                  | go_keep
                  | (go_split_ands
                     refine ⟨?_, ?_, ?_, ?_, ?_, ?_⟩ <;> (first | (rw [hbp.cell (by simpa using hgl)]; assumption) | (rw [hbp.cell (by simpa using hbl)]; assumption))))
                ((first
                  | (go_at_call 36; refine (ahead_any x y _).mono ?_; rintro e w2 ⟨rfl, hbp⟩)))
              have hb2 : Below wr.heap.size wr w2 := ((Below.refl _ _).drew).trans hbp
              have HW := Lib.hid (HBW.out.trans (hb2.mono hzw))
              clear hbp hb2 HBW hgl hbl
              have hz2 : wo.heap.size ≤ w2.heap.size := HW.out.size
              have HAT : Hid (T.take j = A) := Lib.hid (by rw [HA.out, hj.out]; exact List.take_left)
              have HBT : Hid (T.drop j = B) := Lib.hid (by rw [HA.out, hj.out]; exact List.drop_left)
              have hjT : j ≤ T.length := by have := hj.out; have := HAL.out; omega
              have hin0 := HIN.out.step HW.out
              have hin1 := edits_take hin0 j hjT
              rw [HAT.out] at hin1
              obtain ⟨p2, hsl, hin2⟩ := edits_from i0 hi0 hy1 hin0 j hjT
              rw [HBT.out] at hin2
              have HI1 := Lib.hid (hin1.step ((Below.refl w2.heap.size w2).alloc (Nat.le_refl _) (.cells #[] 55)))
              have HI2 := Lib.hid hin2
              have HTJ : Hid (T.length - j = B.length) := Lib.hid (by rw [← HBT.out, List.length_drop])
              have hTB : T.length - j ≤ 60 := by omega
              clear hin0 hin1 hin2
              go_wp2_with (at_builtin; refine wpList_append_ed _ rfl (.tmp 31) (.tmp 34) 22 rfl w2.heap.size 55 i0 (.agg #[.int .i64 0, .int .i64 0, .string ByteArray.empty]) 32 Try.underlying22 hi0 hy0 hy1 hy2 rfl _ 0 [] rfl (World.ownsRow_made w2 #[] 0 (Nat.le_refl _) (Nat.zero_le _) rfl) (some ⟨b', o', none⟩) j d A rfl HI1.out (by unfold maxLen; omega) (by omega) (by simp) ?_)
              intro v1 w3 hown1 hgrow1
              have hb1 := below_fresh _ hgrow1
              have hz3 := hb1.size
              have HO1 : Hid (w3.ownsRow w2.heap.size 55 3 v1 j (edCells A)) := Lib.hid (by simpa using hown1)
              have HB1 := Lib.hid hb1
              obtain ⟨f0, f1, f2⟩ := HXH.out w3 (HW.out.trans (hb1.mono hz2))
              clear hown1 hgrow1 hb1 HI1
              go_wp2_with (at_builtin; refine wpList_append_own _ rfl _ _ 22 rfl w2.heap.size 55 i0 (.agg #[.int .i64 0, .int .i64 0, .string ByteArray.empty]) 3 32 Try.underlying22 hi0 hy0 hy1 hy2 rfl (by omega) _ j (edCells A) rfl (World.ownsRow.alloc HO1.out _) ⟨_, 0, none⟩ 1 1 (edCells [x]) rfl rfl (one_ed _ _) (edCells_one _) (by unfold maxLen; omega) (by omega) (by simp; omega) ?_)
              intro v2 w4 hown2 hgrow2 _
              have hb2 := below_rowE HB1.out hz3 _ HO1.out hgrow2
              have hz4 := hb2.size
              have HO2 := Lib.hid hown2
              have HB2 := Lib.hid hb2
              have HI3 := Lib.hid (HI2.out.step hb2)
              clear hown2 hgrow2 hb2 HB1 HO1 HI2 f0 f1 f2
              go_wp2_with (at_builtin; refine wpList_append_ed _ rfl (.tmp 43) (.tmp 46) 22 rfl w2.heap.size 55 i0 (.agg #[.int .i64 0, .int .i64 0, .string ByteArray.empty]) 32 Try.underlying22 hi0 hy0 hy1 hy2 rfl _ (j + 1) _ rfl HO2.out p2 (T.length - j) (d - j) B rfl HI3.out (by unfold maxLen; omega) (by omega) (by omega) ?_)
              intro v3 w5 hown3 hgrow3
              have HB3 := Lib.hid (HB.out.trans ((HW.out.trans ((HB2.out.grown hgrow3 hz4 (fun q hq => (World.ownsRow.lt HO2.out q hq).1)).mono hz2)).mono hz))
              have HO3 : Hid (OwnE w5 w.heap.size v3 (ssort (l.take (k + 1)))) := Lib.hid (own_e hown3 (by omega) _ (by rw [HA2.out, HTJ.out, hj.out]; simp; omega) (by rw [HA2.out]; simp [edCells_append, edCells]))
              have HREL : Hid (RefRel l n w v3 (.int .i64 ((k + 1 : Nat) : Int)) w5) := Lib.hid ⟨k + 1, by omega, rfl, HO3.out, HB3.out⟩
              clear hown3 hgrow3 HO2 HI3
              go_wp2_with fail
              go_roundw
              case rel => exact HREL.out
              case measure => simp [intOf]; omega
          · have hj : Hid (j = A.length) := Lib.hid (by omega)
            clear hbw
            go_wp2_with fail
            refine wp_region_quiet_below (by kernel_rfl) (by kernel_rfl) ?_
            repeat (go_big_quiet_step (fail))
            refine wpQuiet_nil ?_
            intro w2 hw2
            have hb2 : Below wr.heap.size wr w2 := by obtain ⟨q, rfl⟩ := hw2; exact below_regrown _ _ _
            have HW := Lib.hid (HBW.out.trans (hb2.mono hzw))
            clear hb2 hw2 HBW
            have hz2 : wo.heap.size ≤ w2.heap.size := HW.out.size
            have HAT : Hid (T.take j = A) := Lib.hid (by rw [HA.out, hj.out]; exact List.take_left)
            have HBT : Hid (T.drop j = B) := Lib.hid (by rw [HA.out, hj.out]; exact List.drop_left)
            have hjT : j ≤ T.length := by have := hj.out; have := HAL.out; omega
            have hin0 := HIN.out.step HW.out
            have hin1 := edits_take hin0 j hjT
            rw [HAT.out] at hin1
            obtain ⟨p2, hsl, hin2⟩ := edits_from i0 hi0 hy1 hin0 j hjT
            rw [HBT.out] at hin2
            have HI1 := Lib.hid (hin1.step ((Below.refl w2.heap.size w2).alloc (Nat.le_refl _) (.cells #[] 55)))
            have HI2 := Lib.hid hin2
            have HTJ : Hid (T.length - j = B.length) := Lib.hid (by rw [← HBT.out, List.length_drop])
            have hTB : T.length - j ≤ 60 := by omega
            clear hin0 hin1 hin2
            go_wp2_with (at_builtin; refine wpList_append_ed _ rfl (.tmp 31) (.tmp 34) 22 rfl w2.heap.size 55 i0 (.agg #[.int .i64 0, .int .i64 0, .string ByteArray.empty]) 32 Try.underlying22 hi0 hy0 hy1 hy2 rfl _ 0 [] rfl (World.ownsRow_made w2 #[] 0 (Nat.le_refl _) (Nat.zero_le _) rfl) (some ⟨b', o', none⟩) j d A rfl HI1.out (by unfold maxLen; omega) (by omega) (by simp) ?_)
            intro v1 w3 hown1 hgrow1
            have hb1 := below_fresh _ hgrow1
            have hz3 := hb1.size
            have HO1 : Hid (w3.ownsRow w2.heap.size 55 3 v1 j (edCells A)) := Lib.hid (by simpa using hown1)
            have HB1 := Lib.hid hb1
            obtain ⟨f0, f1, f2⟩ := HXH.out w3 (HW.out.trans (hb1.mono hz2))
            clear hown1 hgrow1 hb1 HI1
            go_wp2_with (at_builtin; refine wpList_append_own _ rfl _ _ 22 rfl w2.heap.size 55 i0 (.agg #[.int .i64 0, .int .i64 0, .string ByteArray.empty]) 3 32 Try.underlying22 hi0 hy0 hy1 hy2 rfl (by omega) _ j (edCells A) rfl (World.ownsRow.alloc HO1.out _) ⟨_, 0, none⟩ 1 1 (edCells [x]) rfl rfl (one_ed _ _) (edCells_one _) (by unfold maxLen; omega) (by omega) (by simp; omega) ?_)
            intro v2 w4 hown2 hgrow2 _
            have hb2 := below_rowE HB1.out hz3 _ HO1.out hgrow2
            have hz4 := hb2.size
            have HO2 := Lib.hid hown2
            have HB2 := Lib.hid hb2
            have HI3 := Lib.hid (HI2.out.step hb2)
            clear hown2 hgrow2 hb2 HB1 HO1 HI2 f0 f1 f2
            go_wp2_with (at_builtin; refine wpList_append_ed _ rfl (.tmp 43) (.tmp 46) 22 rfl w2.heap.size 55 i0 (.agg #[.int .i64 0, .int .i64 0, .string ByteArray.empty]) 32 Try.underlying22 hi0 hy0 hy1 hy2 rfl _ (j + 1) _ rfl HO2.out p2 (T.length - j) (d - j) B rfl HI3.out (by unfold maxLen; omega) (by omega) (by omega) ?_)
            intro v3 w5 hown3 hgrow3
            have HB3 := Lib.hid (HB.out.trans ((HW.out.trans ((HB2.out.grown hgrow3 hz4 (fun q hq => (World.ownsRow.lt HO2.out q hq).1)).mono hz2)).mono hz))
            have HO3 : Hid (OwnE w5 w.heap.size v3 (ssort (l.take (k + 1)))) := Lib.hid (own_e hown3 (by omega) _ (by rw [HA2.out, HTJ.out, hj.out]; simp; omega) (by rw [HA2.out]; simp [edCells_append, edCells]))
            have HREL : Hid (RefRel l n w v3 (.int .i64 ((k + 1 : Nat) : Int)) w5) := Lib.hid ⟨k + 1, by omega, rfl, HO3.out, HB3.out⟩
            clear hown3 hgrow3 HO2 HI3
            go_wp2_with fail
            go_roundw
            case rel => exact HREL.out
            case measure => simp [intOf]; omega
    · have HE : Hid (l.take k = l) := Lib.hid (List.take_of_length_le (by rw [HN.out]; omega))
      have HO := Lib.hid hown
      clear hown hbe
      go_wp2_with fail
      go_ret
      exact ⟨_, rfl, by have := HO.out; rw [HE.out] at this; exact this, HB.out⟩
end Go.Proofs.Ytficgilapbmmpaa
