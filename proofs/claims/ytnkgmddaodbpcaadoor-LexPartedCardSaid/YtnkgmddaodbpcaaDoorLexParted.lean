/-
  LexParted, walked.
-/
import Derived.Test.YtnkgmddaodbpcaaDoorParted
namespace Go.Proofs.YtnkgmddaodbpcaaDoor
open Go.RowKit
set_option linter.unusedVariables false
set_option linter.unusedSimpArgs false

theorem eq26 (k a e : Int) (w : World) : (Op.equalIn 10000 26 (.agg #[.int .i64 k, .int .i64 a, .int .i64 e]) (.agg #[.int .i64 k, .int .i64 a, .int .i64 e])).run Tryd.prog w = .ok true w := by
  rw [run_equalIn_agg w 9999 26 _ _ (by kernel_rfl) (by kernel_rfl)]
  unfold Program.fieldsOf
  rw [Tryd.underlying26]
  simp [Op.eqFields, go_sem]
theorem parted_data (s t : ByteArray) : (s ++ ⟨#[10]⟩ ++ t : ByteArray).data.toList = s.data.toList ++ 10 :: t.data.toList := by
  rw [ByteArray.data_append, Array.toList_append, ByteArray.data_append, Array.toList_append, List.append_assoc]; rfl

theorem pickT_mem (ask : Int → Bool) (l : List Tok) : ∀ t ∈ pickT ask l, t ∈ l := by
  induction l with
  | nil => intro t h; exact h
  | cons x r ih =>
    intro t h
    simp only [pickT] at h
    cases ha : ask x.k <;> rw [ha] at h
    · exact List.mem_cons_of_mem _ (ih t h)
    · rcases List.mem_cons.1 h with e | h
      · subst e; exact List.mem_cons_self ..
      · exact List.mem_cons_of_mem _ (ih t h)
theorem words_bound (s : ByteArray) : ∀ t ∈ wordsT s, t.a ≤ s.size ∧ t.e ≤ s.size := by
  intro t ht
  obtain ⟨h1, h2⟩ := restT_mem s 0 (by omega) t (pickT_mem _ _ t ht)
  refine ⟨h1, ?_⟩
  by_cases h : t.a < s.size
  · have := (tokAt_bound s t.a h).2
    rw [← h2] at this
    exact this
  · have e : t.a = s.size := by omega
    rw [e, tokAt_end] at h2
    rw [h2]
    exact Nat.le_refl _

set_option maxRecDepth 100000 in
set_option maxHeartbeats 4000000 in
theorem lexParted_walk (s t : ByteArray) (w : World) (hs0 : s.size ≤ 9223372036854775807) (ht0 : t.size ≤ 9223372036854775807) (hk : Kw w) :
    Calls Tryd.prog 5 #[.string s, .string t] w fun e w' => e = .returned (.bool true) ∧ Below w.heap.size w w' := by
  have HAl := fun W (h : Below w.heap.size w W) => alive_any W (Kw.step (w1 := W) hk h)
  by_cases hbig : 2000 < s.size
  · clear hk
    go_enter Tryd.func5, Tryd.ntmps5
    go_wp2_with fail
    refine (HAl w (Below.refl _ _)).mono ?_
    rintro e w1 ⟨rfl, hb⟩
    go_wp2_with fail
    go_ret
    exact ⟨rfl, hb⟩
  · by_cases hbig2 : 2000 < t.size
    · clear hk
      go_enter Tryd.func5, Tryd.ntmps5
      go_wp2_with fail
      refine (HAl w (Below.refl _ _)).mono ?_
      rintro e w1 ⟨rfl, hb⟩
      go_wp2_with fail
      go_ret
      exact ⟨rfl, hb⟩
    · have hs : s.size ≤ 2000 := by omega
      have ht : t.size ≤ 2000 := by omega
      have HF := first_is s (by omega) w hk
      have HWs := fun p hp W (h : Below w.heap.size w W) => words_any p hp W (Kw.step (w1 := W) hk h)
      have HP := Lib.hid (words_parted s t (s ++ ⟨#[10]⟩ ++ t) (parted_data s t))
      clear hk hbig hbig2 hs0 ht0
      generalize firstN s = f at *
      obtain ⟨x, y⟩ := f
      simp only at HF HP
      by_cases hy : y = 0
      · subst hy
        obtain ⟨A, hA1, hA2⟩ := HP.out rfl
        have X1 := fun W h => HWs s (by omega) W h
        have X2 := fun W h => HWs t (by omega) W h
        have X3 := fun W h => HWs (s ++ ⟨#[10]⟩ ++ t) (by rw [ByteArray.size_append, ByteArray.size_append]; show _ + 1 + _ ≤ _; omega) W h
        rw [hA1] at X1
        rw [hA2] at X3
        have hbl : 0 < (wordsT t).length ∧ (wordsT t).length ≤ t.size + 1 := by
          have h1 := (scan_chain t).length
          have h2 := pickT_length saysB (scanT t)
          rw [wordsT_says]
          have h3 : (wordsT t).length ≤ t.size + 1 := by unfold wordsT; omega
          rw [wordsT_says] at h3
          simp at h3 ⊢
          exact h3
        have hal : A.length ≤ s.size := by
          have h1 := (scan_chain s).length
          have h2 := pickT_length saysB (scanT s)
          have h3 : (wordsT s).length ≤ s.size + 1 := by unfold wordsT; omega
          rw [hA1] at h3
          simp at h3
          exact h3
        clear HP HWs hA1 hA2
        have HBd := Lib.hid (words_bound t)
        generalize wordsT t = B at *
        generalize hz : (⟨0, s.size, s.size⟩ : Tok) = z at *
        clear hz
        obtain ⟨na, hna⟩ : ∃ na, na = (A ++ [z]).length := ⟨_, rfl⟩
        obtain ⟨nl, hnl⟩ : ∃ nl, nl = (A ++ B.map (shiftT (s.size + 1))).length := ⟨_, rfl⟩
        obtain ⟨nb, hnb⟩ : ∃ nb, nb = B.length := ⟨_, rfl⟩
        obtain ⟨nA, hnA⟩ : ∃ nA, nA = A.length := ⟨_, rfl⟩
        have e0 : na = nA + 1 := by rw [hna, hnA]; simp
        have e1 : nl = nA + nb := by rw [hnl, hnA, hnb]; simp
        rw [← hnb] at hbl
        rw [← hnA] at hal
        obtain ⟨hb0, hb1⟩ := hbl
        have r1 : (na : Int) + (nb : Int) - 1 = (nl : Int) := by omega
        have r2 : (na : Int) - 1 = (nA : Int) := by omega
        have hai : (na : Int) ≤ 2001 := by omega
        have hbi : (nb : Int) ≤ 2001 := by omega
        have hli : (nl : Int) ≤ 4001 := by omega
        have E0 := Lib.hid e0
        have E1 := Lib.hid e1
        have N1 := Lib.hid hna
        have N2 := Lib.hid hnl
        have N3 := Lib.hid hnb
        have N4 := Lib.hid hnA
        clear e0 e1 hna hnl hnb hnA hb1 hal
        go_enter Tryd.func5, Tryd.ntmps5
        go_wp2_with fail
        refine HF.mono ?_
        rintro e w1 ⟨rfl, b1⟩
        have B1 := Lib.hid b1
        clear b1
        go_wp2_with fail
        refine (no_any 0 _).mono ?_
        rintro e w0 ⟨rfl, rfl⟩
        go_wp2_with fail
        refine (X1 w1 B1.out).mono ?_
        rintro e w2 ⟨v1, rfl, t1, b2⟩
        have B2 := Lib.hid (B1.out.trans (b2.mono B1.out.size))
        obtain ⟨g1, p1, rfl, hc1, _, hg1, at1⟩ := t1.open (by rw [← N1.out, E0.out]; omega)
        rw [← N1.out] at hc1 ⊢
        clear t1 b2
        go_wp2_with fail
        refine (X2 w2 B2.out).mono ?_
        rintro e w3 ⟨v2, rfl, t2, b3⟩
        have B3 := Lib.hid (B2.out.trans (b3.mono B2.out.size))
        obtain ⟨g2, p2, rfl, hc2, _, hg2, at2⟩ := t2.open (by rw [← N3.out]; exact hb0)
        rw [← N3.out] at hc2 ⊢
        have at1 := at1.step hg1 b3
        have hg1 : g1 < w3.heap.size := Nat.lt_of_lt_of_le hg1 b3.size
        clear t2 b3
        go_wp2_with fail
        refine (X3 w3 B3.out).mono ?_
        rintro e w4 ⟨v3, rfl, t3, b4⟩
        have B4 := Lib.hid (B3.out.trans (b4.mono B3.out.size))
        obtain ⟨g3, p3, rfl, hc3, _, hg3, at3⟩ := t3.open (by rw [← N2.out, E1.out]; omega)
        rw [← N2.out] at hc3 ⊢
        have AT1 := Lib.hid (at1.step hg1 b4)
        have AT2 := Lib.hid (at2.step hg2 b4)
        have AT3 := Lib.hid at3
        have hg1 : g1 < w4.heap.size := Nat.lt_of_lt_of_le hg1 b4.size
        have hg2 : g2 < w4.heap.size := Nat.lt_of_lt_of_le hg2 b4.size
        clear t3 b4 at1 at2 at3 X1 X2 X3 HF
        go_wp2_with fail
        go_loopw [51] (fun i wr => ∃ k n : Nat, k ≤ nl ∧ i = .int .i64 k ∧ Below w4.heap.size w4 wr) (fun i _ => nl - (intOf i).toNat)
        case atStart => exact ⟨0, 0, by omega, rfl, Below.refl _ _⟩
        case round =>
          obtain ⟨k, _, hk, rfl, hbe⟩ := hrel
          have hsz := hbe.size
          by_cases hlt : k < nl
          · have hk3 : k < (A ++ B.map (shiftT (s.size + 1))).length := by rw [← N2.out]; exact hlt
            have hcc := (AT3.out.step hg3 hbe) k hk3
            by_cases hA : k < nA
            · have hAl : k < A.length := by rw [← N4.out]; exact hA
              have hd1 := fun o => (AT1.out.step hg1 (hbe.alloc hsz o)) k (by rw [← N1.out, E0.out]; omega)
              rw [List.getElem_append_left hAl] at hcc
              have e2 : (A ++ [z])[k]'(by rw [← N1.out, E0.out]; omega) = A[k]'hAl := List.getElem_append_left hAl
              rw [e2] at hd1
              generalize A[k]'hAl = T at hcc hd1
              obtain ⟨tk, ta, te⟩ := T
              obtain ⟨c0, c1, c2⟩ := hcc
              obtain ⟨d0, d1, d2⟩ := hd1 (.cells #[.int .i64 tk, .int .i64 (ta : Int), .int .i64 (te : Int)] 26)
              simp only at c0 c1 c2 d0 d1 d2
              have E : ∀ w', (Op.equalIn 10000 26 (.agg #[.int .i64 tk, .int .i64 (ta : Int), .int .i64 (te : Int)]) (.agg #[.int .i64 tk, .int .i64 (ta : Int), .int .i64 (te : Int)])).run Tryd.prog w' = .ok true w' := fun w' => eq26 tk ta te w'
              have HB := Lib.hid (hbe.alloc hsz (.cells #[.int .i64 tk, .int .i64 (ta : Int), .int .i64 (te : Int)] 26))
              have hA1 : k < na := by have := E0.out; omega
              clear hbe hk3 hd1 hAl e2
              go_wp2_with fail
              go_quiet (fail)
              go_wp2_with fail
              go_roundw
              case rel => exact ⟨k + 1, 0, by omega, by go_num, below_drewN HB.out _⟩
              case measure => simp [intOf]; omega
            · obtain ⟨j, hj⟩ : ∃ j, k = nA + j := ⟨k - nA, by omega⟩
              have hjb : j < nb := by have := E1.out; omega
              have hjB : j < B.length := by rw [← N3.out]; exact hjb
              have hd2 := fun o => (AT2.out.step hg2 (hbe.alloc hsz o)) j hjB
              have hT : (A ++ B.map (shiftT (s.size + 1)))[k]'hk3 = shiftT (s.size + 1) (B[j]'hjB) := by
                have hkj : k = A.length + j := by rw [← N4.out]; exact hj
                subst hkj
                rw [List.getElem_append_right (by omega)]
                simp
              rw [hT] at hcc
              have hbd := HBd.out _ (List.getElem_mem hjB)
              generalize B[j]'hjB = T at hcc hd2 hbd
              obtain ⟨tk, ta, te⟩ := T
              obtain ⟨c0, c1, c2⟩ := hcc
              simp only [shiftT] at c0 c1 c2 hd2 hbd
              have hbd1 : (ta : Int) ≤ 2000 := by omega
              have hbd2 : (te : Int) ≤ 2000 := by omega
              clear hbd
              have q1 : ((ta + (s.size + 1) : Nat) : Int) = (ta : Int) + (s.size : Int) + 1 := by omega
              have q2 : ((te + (s.size + 1) : Nat) : Int) = (te : Int) + (s.size : Int) + 1 := by omega
              rw [q1] at c1
              rw [q2] at c2
              obtain ⟨d0, d1, d2⟩ := hd2 (.cells #[.int .i64 tk, .int .i64 ((ta : Int) + (s.size : Int) + 1), .int .i64 ((te : Int) + (s.size : Int) + 1)] 26)
              have HB := Lib.hid ((hbe.alloc hsz (.cells #[.int .i64 tk, .int .i64 ((ta : Int) + (s.size : Int) + 1), .int .i64 ((te : Int) + (s.size : Int) + 1)] 26)).alloc (by simp; omega) (.cells #[.int .i64 tk, .int .i64 (ta : Int), .int .i64 (te : Int)] 26))
              have HJ := Lib.hid hj
              obtain ⟨v, hv⟩ : ∃ v, (k : Int) - (na : Int) = v := ⟨_, rfl⟩
              have hv1 : v + 1 = (j : Int) := by have := E0.out; omega
              have hv2 : -1 ≤ v := by omega
              have hv3 : v ≤ 5000 := by omega
              clear hbe hk3 hT hj q1 q2 hd2 hjB
              go_wp2_with fail
              go_roundw
              case rel => exact ⟨k + 1, 0, by omega, by go_num, HB.out⟩
              case measure => simp [intOf]; omega
          · have hB := Lib.hid (B4.out.trans (hbe.mono B4.out.size))
            have HX := HAl _ hB.out
            clear hbe
            go_wp2_with fail
            refine HX.mono ?_
            rintro e w5 ⟨rfl, hb⟩
            go_wp2_with fail
            go_ret
            exact ⟨rfl, hB.out.trans (hb.mono hB.out.size)⟩
      · have hy' : (y == 0) = false := by simpa using hy
        clear HP HWs
        go_enter Tryd.func5, Tryd.ntmps5
        go_wp2_with fail
        refine HF.mono ?_
        rintro e w1 ⟨rfl, b1⟩
        go_wp2_with fail
        refine (no_any y _).mono ?_
        rintro e w0 ⟨rfl, rfl⟩
        have B1 := Lib.hid b1
        have HX := HAl _ b1
        clear b1
        go_wp2_with fail
        refine HX.mono ?_
        rintro e w2 ⟨rfl, hb⟩
        go_wp2_with fail
        go_ret
        exact ⟨rfl, B1.out.trans (hb.mono B1.out.size)⟩
end Go.Proofs.YtnkgmddaodbpcaaDoor
