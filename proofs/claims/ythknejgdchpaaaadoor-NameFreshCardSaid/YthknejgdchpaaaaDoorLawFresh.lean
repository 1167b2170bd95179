/-
  NameFresh, walked.
-/
import Derived.Test.YthknejgdchpaaaaDoorAlive
import Derived.Test.YthknejgdchpaaaaDoorFirst
import Derived.Test.YthknejgdchpaaaaDoorRefFresh
namespace Go.Proofs.YthknejgdchpaaaaDoor
open Go.RowKit
set_option linter.unusedVariables false
set_option linter.unusedSimpArgs false

def tot : List ByteArray → Nat
  | [] => 0
  | x :: r => min x.size 5000 + tot r
theorem tot_append (l m : List ByteArray) : tot (l ++ m) = tot l + tot m := by
  induction l with
  | nil => simp [tot]
  | cons x r ih => simp [tot, ih]; omega
theorem tot_le (l : List ByteArray) : tot l ≤ 5000 * l.length := by
  induction l with
  | nil => simp [tot]
  | cons x r ih => simp [tot]; omega
theorem tot_take (l : List ByteArray) (k : Nat) (h : k < l.length) : tot (l.take (k + 1)) = tot (l.take k) + min l[k].size 5000 := by
  rw [List.take_succ_eq_append_getElem h, tot_append]; simp [tot]
theorem tot_mem (l : List ByteArray) (s : ByteArray) (h : s ∈ l) : min s.size 5000 ≤ tot l := by
  induction l with
  | nil => simp at h
  | cons x r ih =>
    rcases List.mem_cons.1 h with e | e
    · subst e; simp only [tot]; omega
    · have := ih e; simp only [tot]; omega
theorem letT_size (p : Int) : (letT p).size = 3 ∨ letT p = ⟨#[]⟩ := by
  unfold letT; cases isLow p <;> cases isUp p <;> first | exact .inl rfl | exact .inr rfl
theorem letT_none (p : Int) (h : letT p = ⟨#[]⟩) : p < 1 ∨ 6 < p := by
  have hc : p < 1 ∨ p = 1 ∨ p = 2 ∨ p = 3 ∨ p = 4 ∨ p = 5 ∨ p = 6 ∨ 6 < p := by omega
  rcases hc with e | rfl | rfl | rfl | rfl | rfl | rfl | e
  · exact .inl e
  all_goals first | exact .inr e | (exact absurd (congrArg ByteArray.size h) (by decide))

set_option maxRecDepth 100000 in
set_option maxHeartbeats 4000000 in
theorem freshLaw_some (q : Int) (l : List ByteArray) (b off n cap : Nat) (w : World) (hat : At w b off l) (hb : b < w.heap.size) (hn : n = l.length) (hc : n ≤ cap) (hm : n ≤ 9223372036854775807) (hsz : ∀ s ∈ l, s.size ≤ 9223372036854775807) (h0 : 0 < n) (hk : Kw w) :
    Calls Tryd.prog 4 #[.int .i64 q, .slice (some ⟨b, off, none⟩) n cap] w fun e w' => e = .returned (.bool true) ∧ Below w.heap.size w w' := by
  have HAl := alive_any w hk
  have HA := Lib.hid hat
  have HN := Lib.hid hn
  have HS := Lib.hid hsz
  have HK := Lib.hid hk
  have hI : In w (some ⟨b, off, none⟩) n cap l := ⟨hn, .inr ⟨b, off, rfl, hc, hb, hat⟩⟩
  have HI := Lib.hid hI
  clear hat hn hsz hI hk
  go_enter Tryd.func4, Tryd.ntmps4
  go_wp2
  go_loop [5, 6] (fun c i => ∃ k : Nat, k ≤ n ∧ k ≤ 201 ∧ i = .int .i64 k ∧ c = .int .i64 (tot (l.take k))) (fun _ i => 201 - (intOf i).toNat)
  case atStart => exact ⟨0, by omega, by omega, rfl, rfl⟩
  case round =>
    obtain ⟨k, hk, hk2, rfl, rfl⟩ := hrel
    have ht := tot_le (l.take k)
    have hl : (l.take k).length ≤ k := List.length_take_le _ _
    by_cases hin : k < n ∧ k ≤ 200
    · obtain ⟨h1, h2⟩ := hin
      have hkl : k < l.length := by have := HN.out; omega
      have hcell : w.cell? ⟨b, off + k, none⟩ = some (.string (l[k]'hkl)) := HA.out k hkl
      have hss := HS.out _ (List.getElem_mem hkl)
      have HT := Lib.hid (tot_take l k hkl)
      generalize l[k]'hkl = t at hcell HT hss
      go_wp2
      go_round
      case rel => exact ⟨k + 1, by omega, by omega, by go_num, by rw [HT.out]; go_num⟩
      case measure => simp [intOf]; omega
    · by_cases hn200 : n ≤ 200
      · have hkn : k = n := by omega
        have hT : Hid (tot (l.take k) = tot l) := Lib.hid (by rw [List.take_of_length_le (by have := HN.out; omega)])
        have hlt : ¬ k < n := by omega
        clear hin
        by_cases h3 : 3000 < tot (l.take k)
        · generalize tot (l.take k) = c at *
          subst hkn
          go_wp2_with (first | (go_at_call 8; refine HAl.mono ?_; rintro e w1 ⟨rfl, hb1⟩))
          go_ret
          exact ⟨rfl, hb1⟩
        · have hbig : ∀ s ∈ l, s.size ≤ 3000 := fun s hs => by have h1 := tot_mem l s hs; have h2 := hT.out; omega
          have HBig := Lib.hid hbig
          generalize tot (l.take k) = c at *
          subst hkn
          rcases letT_size q with hL | hL
          · obtain ⟨N, hF⟩ := first_is q hL l (by have := HN.out; omega)
            have HX := fun W (h : Below w.heap.size w W) => fresh_any q l (some ⟨b, off, none⟩) k cap N W (HI.out.step h) (by omega) (by intro s hs; have := hbig s hs; omega) hL hF
            have HY := fun W (h : In W (some ⟨b, off, none⟩) k cap l) => refFresh_any q l (some ⟨b, off, none⟩) k cap N W h (by omega) hL hF
            have hsz3 := frT_size (letT q) N (by have := hF.le; have := HN.out; omega) hL
            have HZ := fun W (h : In W (some ⟨b, off, none⟩) k cap l) => in_any l (frT (letT q) N) (some ⟨b, off, none⟩) k cap W h (by omega)
            have HM := fun W (h : Below w.heap.size w W) => may_any q (frT (letT q) N) W (HK.out.step h) (by omega)
            have HL := fun W (h : Below w.heap.size w W) => alive_any W (HK.out.step h)
            rw [frT_may q hL N (by have := hF.le; have := HN.out; omega)] at HM
            rw [hF.free] at HZ
            clear hF hL hsz3
            generalize frT (letT q) N = s at *
            go_wp2_with fail
            refine (HX w (Below.refl _ _)).mono ?_
            rintro e w1 ⟨rfl, b1⟩
            have B1 := Lib.hid b1
            have i1 := HI.out.step b1
            have I1 := Lib.hid i1
            clear b1 i1
            go_wp2_with fail
            refine (HY w1 I1.out).mono ?_
            rintro e w2 ⟨rfl, g2⟩
            have B2 := Lib.hid (B1.out.trans (g2.mono B1.out.size))
            have i2 := I1.out.step g2
            have I2 := Lib.hid i2
            clear g2 i2
            go_wp2_with fail
            refine (HZ w2 I2.out).mono ?_
            rintro e v0 ⟨rfl, rfl⟩
            go_wp2_with fail
            refine (HM w2 B2.out).mono ?_
            rintro e v0 ⟨rfl, rfl⟩
            go_wp2_with fail
            refine (HL w2 B2.out).mono ?_
            rintro e w3 ⟨rfl, g3⟩
            have B3 := Lib.hid (B2.out.trans (g3.mono B2.out.size))
            clear g3
            go_wp2_with fail
            go_ret
            exact ⟨rfl, B3.out⟩
          · clear hbig
            have HX := fun W => fresh_none q (some ⟨b, off, none⟩) k cap W hL
            have HY := fun W => refFresh_none q (some ⟨b, off, none⟩) k cap W (letT_none q hL)
            clear hL
            go_wp2_with fail
            refine (HX w).mono ?_
            rintro e w1 ⟨rfl, rfl⟩
            go_wp2_with fail
            refine (HY w).mono ?_
            rintro e v0 ⟨rfl, rfl⟩
            go_wp2_with fail
            refine HAl.mono ?_
            rintro e w1 ⟨rfl, hb1⟩
            go_wp2_with fail
            go_ret
            exact ⟨rfl, hb1⟩
      · have hk201 : k = 201 := by omega
        have h200 : 200 < n := by omega
        clear hin hn200
        by_cases hlt : k < n
        all_goals
          generalize tot (l.take k) = c at *
          have hk1 : 201 ≤ k := by omega
          have hk3 : ¬ k ≤ 200 := by omega
          clear hk201
          go_wp2_with (first | (go_at_call 8; refine HAl.mono ?_; rintro e w1 ⟨rfl, hb1⟩))
          go_ret
          exact ⟨rfl, hb1⟩

set_option maxRecDepth 100000 in
set_option maxHeartbeats 4000000 in
theorem freshLaw_nil (q : Int) (p : Option Addr) (cap : Nat) (w : World) (hk : Kw w) :
    Calls Tryd.prog 4 #[.int .i64 q, .slice p 0 cap] w fun e w' => e = .returned (.bool true) ∧ Below w.heap.size w w' := by
  have HAl := alive_any w hk
  have HK := Lib.hid hk
  have HI : Hid (In w p 0 cap []) := Lib.hid ⟨rfl, .inl rfl⟩
  clear hk
  rcases letT_size q with hL | hL
  · obtain ⟨N, hF⟩ := first_is q hL [] (by simp)
    have hN : N = 0 := by have := hF.le; simp at this; exact this
    subst hN
    have HX := fun W (h : Below w.heap.size w W) => fresh_any q [] p 0 cap 0 W (HI.out.step h) (by omega) (by intro s hs; simp at hs) hL hF
    have HY := fun W (h : In W p 0 cap []) => refFresh_any q [] p 0 cap 0 W h (by omega) hL hF
    have hsz3 := frT_size (letT q) 0 (by omega) hL
    have HZ := fun W (h : In W p 0 cap []) => in_any [] (frT (letT q) 0) p 0 cap W h (by omega)
    have HM := fun W (h : Below w.heap.size w W) => may_any q (frT (letT q) 0) W (HK.out.step h) (by omega)
    have HL := fun W (h : Below w.heap.size w W) => alive_any W (HK.out.step h)
    rw [frT_may q hL 0 (by omega)] at HM
    rw [hF.free] at HZ
    clear hF hL hsz3
    generalize frT (letT q) 0 = s at *
    go_enter Tryd.func4, Tryd.ntmps4
    go_wp2
    refine wp_loop_rounds 1 ?_
    rw [rounds_succ]
    go_wp2_with fail
    refine (HX w (Below.refl _ _)).mono ?_
    rintro e w1 ⟨rfl, b1⟩
    have B1 := Lib.hid b1
    have i1 := HI.out.step b1
    have I1 := Lib.hid i1
    clear b1 i1
    go_wp2_with fail
    refine (HY w1 I1.out).mono ?_
    rintro e w2 ⟨rfl, g2⟩
    have B2 := Lib.hid (B1.out.trans (g2.mono B1.out.size))
    have i2 := I1.out.step g2
    have I2 := Lib.hid i2
    clear g2 i2
    go_wp2_with fail
    refine (HZ w2 I2.out).mono ?_
    rintro e v0 ⟨rfl, rfl⟩
    go_wp2_with fail
    refine (HM w2 B2.out).mono ?_
    rintro e v0 ⟨rfl, rfl⟩
    go_wp2_with fail
    refine (HL w2 B2.out).mono ?_
    rintro e w3 ⟨rfl, g3⟩
    have B3 := Lib.hid (B2.out.trans (g3.mono B2.out.size))
    clear g3
    go_wp2_with fail
    go_ret
    exact ⟨rfl, B3.out⟩
  · have HX := fun W => fresh_none q p 0 cap W hL
    have HY := fun W => refFresh_none q p 0 cap W (letT_none q hL)
    clear hL
    go_enter Tryd.func4, Tryd.ntmps4
    go_wp2
    refine wp_loop_rounds 1 ?_
    rw [rounds_succ]
    go_wp2_with fail
    refine (HX w).mono ?_
    rintro e w1 ⟨rfl, rfl⟩
    go_wp2_with fail
    refine (HY w).mono ?_
    rintro e v0 ⟨rfl, rfl⟩
    go_wp2_with fail
    refine HAl.mono ?_
    rintro e w1 ⟨rfl, hb1⟩
    go_wp2_with fail
    go_ret
    exact ⟨rfl, hb1⟩

theorem nameFresh_walk (q : Int) (p : Option Addr) (n cap : Nat) (l : List ByteArray) (w : World) (wq : (Lit.int .i64 q).wf = true) (hm : n ≤ 9223372036854775807) (h : In w p n cap l) (hsz : ∀ s ∈ l, s.size ≤ 9223372036854775807) (hk : Kw w) :
    Calls Tryd.prog 4 #[.int .i64 q, .slice p n cap] w fun e w' => e = .returned (.bool true) ∧ Below w.heap.size w w' := by
  obtain ⟨hn, h0 | ⟨b, off, rfl, hc, hb, hat⟩⟩ := h
  · subst h0
    exact freshLaw_nil q p cap w hk
  · by_cases h0 : n = 0
    · subst h0
      exact freshLaw_nil q _ cap w hk
    · exact freshLaw_some q l b off n cap w hat hb hn hc hm hsz (by omega) hk
end Go.Proofs.YthknejgdchpaaaaDoor
