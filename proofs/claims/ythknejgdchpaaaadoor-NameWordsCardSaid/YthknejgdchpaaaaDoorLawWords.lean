/-
  NameWords, walked.
-/
import Derived.Test.YthknejgdchpaaaaDoorOne
import Derived.Test.YthknejgdchpaaaaDoorDigits
namespace Go.Proofs.YthknejgdchpaaaaDoor
open Go.RowKit
set_option linter.unusedVariables false
set_option linter.unusedSimpArgs false

theorem row_of_in {w : World} {q : Option Addr} {n c : Nat} {l : List ByteArray} (h : In w q n c l) (h0 : 0 < n) : ∃ b off, q = some ⟨b, off, none⟩ ∧ n ≤ c ∧ b < w.heap.size ∧ At w b off l := by
  rcases h.2 with h1 | ⟨b, off, hq, hc, hb, hat⟩
  · omega
  · exact ⟨b, off, hq, hc, hb, hat⟩
/-- 'string([]byte{x})', in whatever world holds the byte. -/
theorem cvG (w : World) (n : Nat) (x : Int) (h : w.cell? ⟨n, 0, none⟩ = some (.int .u8 x)) : (convert 39 9 (.slice (some ⟨n, 0, none⟩) 1 1)).run Tryd.prog w = .ok (.string ⟨#[UInt8.ofNat x.toNat]⟩) w := by
  rw [run_convert_bytes_string _ 39 9 5 _ _ _ Tryd.underlying39 Tryd.underlying5 Tryd.underlying9]
  have h := run_loadCells_list (P := Tryd.prog) w ⟨n, 0, none⟩ [.int .u8 x] (by
    intro j v hv
    match j, hv with
    | 0, hv => simp at hv; subst hv; simpa [Addr.add] using h
    | j + 1, hv => simp at hv)
  rw [run_bytesToString _ _ 1 1 [x] h]
  rfl
theorem kw_all (k : Nat) (h : k < 25) : kwB (kwT[k]'h) = true := inB_at (l := kwT) k h (beq_iff_eq.2 rfl)
theorem kw_ten (k : Nat) (h : k < 25) : kindN (kwT[k]'h) = 10 := by
  have := kw_kind (kwT[k]'h)
  rw [kw_all k h] at this
  simpa using this.symm
/-- Each keyword comes ahead of the next one. -/
theorem kw_rise (k : Nat) (h : k + 1 < 25) : Op.bytesLess (kwT[k]'(by have : kwT.length = 25 := rfl; omega)).toList (kwT[k + 1]'h).toList = true := by
  rw [Lib.toList_data, Lib.toList_data]
  revert h
  have : ∀ k : Fin 24, Op.bytesLess (kwT[k.val]'(by have : kwT.length = 25 := rfl; omega)).data.toList (kwT[k.val + 1]'(by have : kwT.length = 25 := rfl; omega)).data.toList = true := by decide
  intro h
  exact this ⟨k, by omega⟩
theorem kw_size (k : Nat) (h : k < 25) : 0 < (kwT[k]'h).size ∧ (kwT[k]'h).size ≤ 20 := by
  have : ∀ k : Fin 25, 0 < (kwT[k.val]'k.isLt).size ∧ (kwT[k.val]'k.isLt).size ≤ 20 := by decide
  exact this ⟨k, h⟩
theorem all_app (l : List UInt8) (c : UInt8) : (l ++ [c]).all restB = (l.all restB && restB c) := by simp
/-- A keyword with a byte behind it. -/
theorem kw_more (k : Nat) (h : k < 25) (c : UInt8) : kindN (kwT[k]'h ++ ⟨#[c]⟩) = bif restB c then (bif kwB (kwT[k]'h ++ ⟨#[c]⟩) then 10 else 6) else 0 := by
  have hz := kw_size k h
  obtain ⟨hb, hr⟩ := kw_beg _ (kw_all k h)
  generalize kwT[k]'h = s at *
  have hz2 : 0 < (s ++ (⟨#[c]⟩ : ByteArray)).size := by rw [ByteArray.size_append]; omega
  have hd : (s ++ (⟨#[c]⟩ : ByteArray)).data.toList = s.data.toList ++ [c] := by rw [ByteArray.data_append]; simp
  have h0 : (s ++ (⟨#[c]⟩ : ByteArray))[0] = s[0] := by
    rw [← data_at _ 0 hz2, ← data_at s 0 hz.1]
    simp only [hd]
    rw [List.getElem_append_left]
  have hlow : lowB s[0] = true := by
    rw [beg_eq s hz.1] at hb
    cases e : lowB s[0]
    · rw [e] at hb
      cases e2 : capB s[0] <;> cases e3 : signB s[0] <;> cases e4 : ((s[0].toNat : Int) == 39) <;> cases e5 : secB s <;> rw [e2, e3, e4, e5] at hb <;> simp at hb
    · rfl
  have hbeg : begN (s ++ (⟨#[c]⟩ : ByteArray)) = 6 := by
    rw [beg_eq _ hz2, h0, hlow]; rfl
  have hall : allR (s ++ (⟨#[c]⟩ : ByteArray)) = restB c := by
    unfold allR at *
    rw [hd, all_app, hr, Bool.true_and]
  unfold kindN
  rw [mk_not _ (.inl hbeg), hbeg, hall]
  cases restB c <;> cases kwB (s ++ (⟨#[c]⟩ : ByteArray)) <;> rfl
/-- A keyword with a capital letter in the place of its first one. -/
theorem kw_up (k : Nat) (h : k < 25) : kindN (⟨#[(kwT[k]'h)[0]'(kw_size k h).1 - 32]⟩ ++ (kwT[k]'h).extract 1 (kwT[k]'h).size) = 7 := by
  have : ∀ k : Fin 25, kindN (⟨#[(kwT[k.val]'k.isLt)[0]'(kw_size k.val k.isLt).1 - 32]⟩ ++ (kwT[k.val]'k.isLt).extract 1 (kwT[k.val]'k.isLt).size) = 7 := by
    intro k
    unfold kindN kwB mkB
    rw [inB_dec, inB_dec, beg_eq _ (by rw [ByteArray.size_append]; exact Nat.lt_of_lt_of_le (show 0 < 1 by decide) (Nat.le_add_right _ _))]
    revert k
    decide
  exact this ⟨k, h⟩

set_option maxRecDepth 100000 in
set_option maxHeartbeats 4000000 in
theorem nameWords_walk (n : Int) (c : UInt8) (w : World) (wn : (Lit.int .i64 n).wf = true) (hk : Kw w) :
    Calls Tryd.prog 7 #[.int .i64 n, .int .u8 (c.toNat : Int)] w fun e w' => e = .returned (.bool true) ∧ Below w.heap.size w w' := by
  have hcb := c.toNat_lt
  have C25 := keywords_any w hk
  have C12 := fun W (hb : Below w.heap.size w W) s (hs : s.size ≤ 9223372036854775807) => kind_any s W (hk.step hb) hs
  have C19 : ∀ W (hb : Below w.heap.size w W) (q : Int) s (hs : s.size ≤ 9223372036854775807), Calls Tryd.prog 19 #[.int .i64 q, .string s] W fun e w' => e = .returned (.bool (mayX q (kindN s))) ∧ W = w' := fun W hb q s hs => may_any q s W (hk.step hb) hs
  have C8 := fun W (hb : Below w.heap.size w W) => alive_any W (hk.step hb)
  clear hk
  go_enter Tryd.func7, Tryd.ntmps7
  go_wp2_with fail
  refine C25.mono ?_
  rintro e w1 ⟨v, rfl, own, b1⟩
  obtain ⟨p, cap, rfl, hin⟩ := in_of_own own
  have hl : kwT.length = 25 := rfl
  rw [hl] at hin ⊢
  clear own hl C25
  obtain ⟨b, off, rfl, hc, hb, hat⟩ := row_of_in hin (by omega)
  have HAT := Lib.hid hat
  have B1 := Lib.hid b1
  clear hat hin b1
  go_wp2
  go_loop [17] (fun i => ∃ k : Nat, k ≤ 25 ∧ i = .int .i64 k) (fun i => 25 - (intOf i).toNat)
  case atStart => exact ⟨0, by omega, rfl⟩
  case round =>
    obtain ⟨k, hk, rfl⟩ := hrel
    by_cases hlt : k < 25
    · have hcell : w1.cell? ⟨b, off + k, none⟩ = some (.string (kwT[k]'hlt)) := HAT.out k hlt
      have hz := kw_size k hlt
      have D12 := C12 w1 B1.out (kwT[k]'hlt) (by omega)
      have D1 := C19 w1 B1.out 1 (kwT[k]'hlt) (by omega)
      have D3 := C19 w1 B1.out 3 (kwT[k]'hlt) (by omega)
      rw [kw_ten k hlt] at D12 D1 D3
      rw [show mayX 1 10 = false by decide] at D1
      rw [show mayX 3 10 = false by decide] at D3
      clear C12 C19 C8
      by_cases h0 : k = 0
      · subst h0
        rw [Nat.add_zero] at hcell
        generalize kwT[0]'hlt = t at hcell D12 D1 D3 hz
        clear hz
        go_wp2_with fail
        refine D12.mono ?_
        rintro e v0 ⟨rfl, rfl⟩
        go_wp2_with fail
        refine D1.mono ?_
        rintro e v0 ⟨rfl, rfl⟩
        go_wp2_with fail
        refine D3.mono ?_
        rintro e v0 ⟨rfl, rfl⟩
        go_wp2_with fail
        go_round
        case rel => exact ⟨1, by omega, by go_num⟩
        case measure => simp [intOf]
      · have hpos : 0 < k := by omega
        have hex : ∃ j : Nat, (k : Int) - 1 = (j : Int) ∧ ∃ u, w1.cell? ⟨b, off + j, none⟩ = some (.string u) ∧ Op.bytesLess u.toList (kwT[k]'hlt).toList = true := by
          cases k with
          | zero => omega
          | succ j => exact ⟨j, by omega, _, HAT.out j (Nat.lt_of_succ_lt hlt), kw_rise j hlt⟩
        obtain ⟨j, hj, u, hcell2, hrise⟩ := hex
        generalize kwT[k]'hlt = t at hcell D12 D1 D3 hz hrise
        clear hz h0
        go_wp2_with fail
        refine D12.mono ?_
        rintro e v0 ⟨rfl, rfl⟩
        go_wp2_with fail
        refine D1.mono ?_
        rintro e v0 ⟨rfl, rfl⟩
        go_wp2_with fail
        refine D3.mono ?_
        rintro e v0 ⟨rfl, rfl⟩
        clear D12 D1 D3
        go_wp2_with fail
        go_round
        case rel => exact ⟨k + 1, by omega, by go_num⟩
        case measure => simp [intOf]; omega
    · have hk25 : k = 25 := by omega
      subst hk25
      have hm1 : -24 ≤ n.tmod 25 ∧ n.tmod 25 ≤ 24 := by
        have h1 := Int.tmod_lt_of_pos n (show (0 : Int) < 25 by decide)
        have h2 := Int.lt_tmod_of_pos n (show (0 : Int) < 25 by decide)
        omega
      have hr : n.tmod 25 % 25 = ((n.tmod 25 % 25).toNat : Int) := by omega
      have hr25 : (n.tmod 25 % 25).toNat < 25 := by omega
      generalize (n.tmod 25 % 25).toNat = r at hr hr25
      have hex : ∃ s : ByteArray, w1.cell? ⟨b, off + r, none⟩ = some (.string s) ∧ s.size ≤ 20 ∧ (kindN (s ++ ⟨#[c]⟩) = bif restB c then (bif kwB (s ++ ⟨#[c]⟩) then 10 else 6) else 0) ∧
          ∃ hz : 0 < s.size, kindN (⟨#[s[0] - 32]⟩ ++ s.extract 1 s.size) = 7 ∧ 97 ≤ s[0].toNat ∧ s[0].toNat ≤ 122 := by
        have hf : ∀ k : Fin 25, 97 ≤ ((kwT[k.val]'k.isLt)[0]'(kw_size k.val k.isLt).1).toNat ∧ ((kwT[k.val]'k.isLt)[0]'(kw_size k.val k.isLt).1).toNat ≤ 122 := by decide
        exact ⟨kwT[r]'hr25, HAT.out r hr25, (kw_size r hr25).2, kw_more r hr25 c, (kw_size r hr25).1, kw_up r hr25, hf ⟨r, hr25⟩⟩
      obtain ⟨s, hcell, hz2, hmore, hz1, hup, hfirst⟩ := hex
      have HMore := Lib.hid hmore
      have HUp := Lib.hid hup
      have HFirst := Lib.hid hfirst
      clear hmore hup hfirst C19
      have c0 := cv w1 w1.heap.size rfl (c.toNat : Int)
      rw [show UInt8.ofNat ((c.toNat : Int)).toNat = c by simp] at c0
      have hadd := add_run s ⟨#[c]⟩ (by omega) (show 1 ≤ 1000000 by decide)
      have hx : ∃ x : Int, kindN (s ++ ⟨#[c]⟩) = x ∧ ((x = 6 ∧ restB c = true) ∨ (x = 10 ∧ restB c = true) ∨ (x = 0 ∧ restB c = false)) := by
        refine ⟨_, rfl, ?_⟩
        rw [HMore.out]
        cases restB c
        · exact .inr (.inr ⟨rfl, rfl⟩)
        · cases kwB (s ++ (⟨#[c]⟩ : ByteArray))
          · exact .inl ⟨rfl, rfl⟩
          · exact .inr (.inl ⟨rfl, rfl⟩)
      obtain ⟨x, hxk, hx⟩ := hx
      have HX := Lib.hid hx
      clear hx
      have B2 := Lib.hid (B1.out.alloc B1.out.size (.cells #[.int .u8 (c.toNat : Int)] 5))
      have D := C12 _ B2.out (s ++ ⟨#[c]⟩) (by rw [ByteArray.size_append]; have : (⟨#[c]⟩ : ByteArray).size = 1 := rfl; omega)
      rw [hxk] at D
      clear hxk
      go_wp2_with fail
      refine D.mono ?_
      rintro e v0 ⟨rfl, rfl⟩
      clear D
      generalize w1.alloc (.cells #[.int .u8 (c.toNat : Int)] 5) = W2 at *
      clear c0 hadd HAT
      obtain ⟨hf1, hf2⟩ := HFirst.out
      have hsub : UInt8.ofNat (((s[0].toNat : Int) - 32)).toNat = s[0] - 32 := by
        rw [← UInt8.toNat_inj, UInt8.toNat_sub]
        simp
        omega
      have hwr : IntKind.u8.wrap ((s[0].toNat : Int) - 32) = (s[0].toNat : Int) - 32 := by rw [IntKind.wrap_u8]; omega
      have c1 := cvG ((W2.alloc (.cells #[.int .u8 ((s[0].toNat : Int) - 32)] 5)).drew) W2.heap.size ((s[0].toNat : Int) - 32) (by simp [go_sem])
      rw [hsub] at c1
      have hadd2 := add_run ⟨#[s[0] - 32]⟩ (s.extract 1 s.size) (show 1 ≤ 1000000 by decide) (by simp; omega)
      have HU : Hid (∀ W, Below w.heap.size w W → Calls Tryd.prog 12 #[.string (⟨#[s[0] - 32]⟩ ++ s.extract 1 s.size)] W fun e w' => e = .returned (.int .i64 7) ∧ W = w') := Lib.hid fun W hW => by
        have := C12 W hW (⟨#[s[0] - 32]⟩ ++ s.extract 1 s.size) (by rw [ByteArray.size_append]; have : (⟨#[s[0] - 32]⟩ : ByteArray).size = 1 := rfl; simp; omega)
        rw [HUp.out] at this
        exact this
      have B3 := Lib.hid ((B2.out.alloc B2.out.size (.cells #[.int .u8 ((s[0].toNat : Int) - 32)] 5)).drew)
      have HR := refRest_any c ((W2.alloc (.cells #[.int .u8 ((s[0].toNat : Int) - 32)] 5)).drew)
      have D7 := HU.out _ B3.out
      have D8 := C8 _ B3.out
      have HRo := HX.out
      clear C12 C8 hsub HU
      rcases HRo with ⟨rfl, hrest⟩ | ⟨rfl, hrest⟩ | ⟨rfl, hrest⟩
      all_goals
        rw [hrest] at HR
        clear HX HMore HUp hrest
        go_wp2_with fail
        go_region
        go_wp2_with fail
        refine HR.mono ?_
        rintro e v0 ⟨rfl, rfl⟩
        go_wp2_with fail
        refine D7.mono ?_
        rintro e v0 ⟨rfl, rfl⟩
        go_wp2_with fail
        refine D8.mono ?_
        rintro e w4 ⟨rfl, g4⟩
        have B4 := Lib.hid (B3.out.trans (g4.mono B3.out.size))
        clear g4
        go_wp2_with fail
        go_ret
        exact ⟨rfl, B4.out⟩
end Go.Proofs.YthknejgdchpaaaaDoor
