/-
  NameKinds, walked.
-/
import Derived.Test.YthknejgdchpaaaaDoorAlive
import Derived.Test.YthknejgdchpaaaaDoorMay
import Derived.Test.YthknejgdchpaaaaDoorAlike
import Derived.Test.YthknejgdchpaaaaDoorSpace
namespace Go.Proofs.YthknejgdchpaaaaDoor
open Go.RowKit
set_option linter.unusedVariables false
set_option linter.unusedSimpArgs false

/-- The word of a space, as the law takes it out of the row. -/
theorem space_at (p : Int) (h : 1 ≤ p ∧ p ≤ 6) : ∃ k : Nat, p = (k : Int) ∧ 1 ≤ k ∧ k ≤ 6 ∧ spT[k]? = some (spaceT p) := by
  obtain ⟨h1, h2⟩ := h
  refine ⟨p.toNat, by omega, by omega, by omega, ?_⟩
  have hc : p = 1 ∨ p = 2 ∨ p = 3 ∨ p = 4 ∨ p = 5 ∨ p = 6 := by omega
  rcases hc with rfl | rfl | rfl | rfl | rfl | rfl <;> rfl

theorem at_of_in {w : World} {q : Option Addr} {n c : Nat} {l : List ByteArray} (h : In w q n c l) (h0 : 0 < n) : ∃ b off, q = some ⟨b, off, none⟩ ∧ n ≤ c ∧ b < w.heap.size ∧ At w b off l := by
  rcases h.2 with h1 | ⟨b, off, hq, hc, hb, hat⟩
  · omega
  · exact ⟨b, off, hq, hc, hb, hat⟩
theorem texts_in (l : List ByteArray) (q1 q2 : Option Addr) (n c1 c2 : Nat) (w : World) (h1 : In w q1 n c1 l) (h2 : In w q2 n c2 l) (h0 : 0 < n) (hm : n ≤ 1000000) :
    Calls Tryd.prog 24 #[.slice q1 n c1, .slice q2 n c2] w fun e w' => e = .returned (.bool true) ∧ ∃ d, w' = w.drewN d := by
  obtain ⟨b, o1, rfl, hc1, _, hat1⟩ := at_of_in h1 h0
  obtain ⟨c, o2, rfl, hc2, _, hat2⟩ := at_of_in h2 h0
  exact texts_same l b c o1 o2 n c1 c2 w hat1 hat2 h1.1 hc1 hc2 hm h0

set_option maxRecDepth 100000 in
set_option maxHeartbeats 8000000 in
theorem nameKinds_walk (s t : ByteArray) (p : Int) (w : World) (hs : s.size ≤ 9223372036854775807) (ht : t.size ≤ 9223372036854775807) (wp : (Lit.int .i64 p).wf = true) (hk : Kw w) :
    Calls Tryd.prog 3 #[.string s, .string t, .int .i64 p] w fun e w' => e = .returned (.bool true) ∧ Below w.heap.size w w' := by
  have HA := alive_any w hk
  by_cases h : 1000 < s.size
  · clear hk
    go_enter Tryd.func3, Tryd.ntmps3
    go_wp2_with (go_at_call 8; refine HA.mono ?_; rintro e w1 ⟨rfl, hb⟩)
    go_ret
    exact ⟨rfl, hb⟩
  by_cases h' : 1000 < t.size
  · clear hk
    go_enter Tryd.func3, Tryd.ntmps3
    go_wp2_with (go_at_call 8; refine HA.mono ?_; rintro e w1 ⟨rfl, hb⟩)
    go_ret
    exact ⟨rfl, hb⟩
  have K := fun W (hb : Below w.heap.size w W) => hk.step hb
  have C9 := fun W (hb : Below w.heap.size w W) => level_any s W (K W hb) hs
  have C10 := fun W (hb : Below w.heap.size w W) => refLevel_any s W hs
  have C12 := fun W (hb : Below w.heap.size w W) => kind_any s W (K W hb) hs
  have C13 := fun W (hb : Below w.heap.size w W) => refKind_any s W hs
  have C14 := fun W (hb : Below w.heap.size w W) => keyword_any s W (K W hb)
  have C17 := fun W (hb : Below w.heap.size w W) => mark_any s W
  have C15k := fun W q (hi : In W q 25 25 kwT) => in_any kwT s q 25 25 W hi (by omega)
  have C15m := fun W q (hi : In W q 12 12 mkT) => in_any mkT s q 12 12 W hi (by omega)
  have C19 := fun W (hb : Below w.heap.size w W) => may_any p s W (K W hb) hs
  have C20 := fun W (hb : Below w.heap.size w W) => refMay_any p s W hs
  have C21 := fun W (hb : Below w.heap.size w W) => alike_any s t W (K W hb) hs ht
  have C22 := fun W (hb : Below w.heap.size w W) => refAlike_any s t W hs ht
  have C23 := fun W (hb : Below w.heap.size w W) => space_any p W
  have C25 := fun W (hb : Below w.heap.size w W) => keywords_any W (K W hb)
  have C8 := fun W (hb : Below w.heap.size w W) => alive_any W (K W hb)
  have e1 : inB kwT s = kwB s := rfl
  have e2 : inB mkT s = mkB s := rfl
  simp only [e1] at C15k
  simp only [e2] at C15m
  have HSP := space_at p
  have HS0 : ¬ (1 ≤ p ∧ p ≤ 6) → spaceT p = ⟨#[]⟩ := fun h => by unfold spaceT; rw [if_neg h]
  clear hk K e1 e2 HA
  generalize levN s = lv at *
  generalize levR s = lr at *
  generalize kindN s = x at *
  generalize kwB s = kb at *
  generalize mkB s = mb at *
  generalize mayB p s = yb at *
  generalize alikeB s t = ab at *
  have b0 : Below w.heap.size w w := Below.refl _ _
  by_cases hr : 1 ≤ p ∧ p ≤ 6
  · obtain ⟨k, rfl, hk1, hk6, hsk⟩ := HSP hr
    clear HSP HS0 hr
    generalize spaceT (k : Int) = sp at *
    go_enter Tryd.func3, Tryd.ntmps3
    go_wp2_with fail
    refine (C9 _ b0).mono ?_
    rintro e v0 ⟨rfl, rfl⟩
    go_wp2_with fail
    refine (C10 _ b0).mono ?_
    rintro e w1 ⟨rfl, g1⟩
    have B1 : Below w.heap.size w w1 := b0.trans (g1.mono b0.size)
    clear g1
    go_wp2_with fail
    refine (spaces_any _).mono ?_
    rintro e w2 ⟨rfl, i2, g2⟩
    have B2 : Below w.heap.size w w2 := B1.trans (g2.mono B1.size)
    clear g2
    have hcell : w2.cell? ⟨w1.heap.size, k, none⟩ = some (.string sp) := by
      obtain ⟨b, off, hq, _, _, hat⟩ := at_of_in i2 (by omega)
      obtain ⟨rfl, rfl⟩ : w1.heap.size = b ∧ 0 = off := by simpa using hq
      have := hat k (by have : spT.length = 7 := rfl; omega)
      rw [Nat.zero_add] at this
      rw [this]
      obtain ⟨_, e⟩ := List.getElem?_eq_some_iff.1 hsk
      rw [e]
    clear i2
    go_wp2_with fail
    refine (C12 _ B2).mono ?_
    rintro e v0 ⟨rfl, rfl⟩
    go_wp2_with fail
    refine (C13 _ B2).mono ?_
    rintro e w3 ⟨rfl, g3⟩
    have B3 : Below w.heap.size w w3 := B2.trans (g3.mono B2.size)
    clear g3
    go_wp2_with fail
    refine (C14 _ B3).mono ?_
    rintro e v0 ⟨rfl, rfl⟩
    go_wp2_with fail
    refine (refKeywords_any _).mono ?_
    rintro e w4 ⟨rfl, i4, g4⟩
    have B4 : Below w.heap.size w w4 := B3.trans (g4.mono B3.size)
    clear g4
    go_wp2_with fail
    refine (C15k _ _ i4).mono ?_
    rintro e v0 ⟨rfl, rfl⟩
    clear i4
    go_wp2_with fail
    refine (C17 _ B4).mono ?_
    rintro e v0 ⟨rfl, rfl⟩
    go_wp2_with fail
    refine (marks_any _).mono ?_
    rintro e w5 ⟨rfl, i5, g5⟩
    have B5 : Below w.heap.size w w5 := B4.trans (g5.mono B4.size)
    clear g5
    go_wp2_with fail
    refine (C15m _ _ i5).mono ?_
    rintro e v0 ⟨rfl, rfl⟩
    clear i5
    go_wp2_with fail
    refine (C19 _ B5).mono ?_
    rintro e v0 ⟨rfl, rfl⟩
    go_wp2_with fail
    refine (C20 _ B5).mono ?_
    rintro e w6 ⟨rfl, g6⟩
    have B6 : Below w.heap.size w w6 := B5.trans (g6.mono B5.size)
    clear g6
    go_wp2_with fail
    refine (C21 _ B6).mono ?_
    rintro e v0 ⟨rfl, rfl⟩
    go_wp2_with fail
    refine (C22 _ B6).mono ?_
    rintro e w7 ⟨rfl, g7⟩
    have B7 : Below w.heap.size w w7 := B6.trans (g7.mono B6.size)
    clear g7
    go_wp2_with fail
    refine (C23 _ B7).mono ?_
    rintro e v0 ⟨rfl, rfl⟩
    go_wp2_with fail
    refine (C25 _ B7).mono ?_
    rintro e w8 ⟨v, rfl, own, g8⟩
    have B8 : Below w.heap.size w w8 := B7.trans (g8.mono B7.size)
    clear g8
    obtain ⟨q, c, rfl, iq⟩ := in_of_own own
    clear own
    have hl : kwT.length = 25 := rfl
    rw [hl] at iq ⊢
    clear hl
    go_wp2_with fail
    refine (refKeywords_any _).mono ?_
    rintro e w9 ⟨rfl, i9, g9⟩
    have B9 : Below w.heap.size w w9 := B8.trans (g9.mono B8.size)
    have iq2 := iq.step g9
    clear g9 iq
    go_wp2_with fail
    refine (texts_in kwT _ _ 25 _ _ _ iq2 i9 (by omega) (by omega)).mono ?_
    rintro e v0 ⟨rfl, d, rfl⟩
    clear i9 iq2
    have B10 : Below w.heap.size w (w9.drewN d) := below_drewN B9 d
    go_wp2_with fail
    refine (C8 _ B10).mono ?_
    rintro e w11 ⟨rfl, g11⟩
    have B11 : Below w.heap.size w w11 := B10.trans (g11.mono B10.size)
    clear g11
    go_wp2_with fail
    go_ret
    exact ⟨rfl, B11⟩
  · have hs0 := HS0 hr
    rw [hs0] at C23
    clear HSP HS0 hs0
    by_cases hp1 : 1 ≤ p
    · have hp6 : ¬ p ≤ 6 := by omega
      clear hr
      go_enter Tryd.func3, Tryd.ntmps3
      go_wp2_with fail
      refine (C9 _ b0).mono ?_
      rintro e v0 ⟨rfl, rfl⟩
      go_wp2_with fail
      refine (C10 _ b0).mono ?_
      rintro e w1 ⟨rfl, g1⟩
      have B1 : Below w.heap.size w w1 := b0.trans (g1.mono b0.size)
      clear g1
      go_wp2_with fail
      refine (C12 _ B1).mono ?_
      rintro e v0 ⟨rfl, rfl⟩
      go_wp2_with fail
      refine (C13 _ B1).mono ?_
      rintro e w2 ⟨rfl, g2⟩
      have B2 : Below w.heap.size w w2 := B1.trans (g2.mono B1.size)
      clear g2
      go_wp2_with fail
      refine (C14 _ B2).mono ?_
      rintro e v0 ⟨rfl, rfl⟩
      go_wp2_with fail
      refine (refKeywords_any _).mono ?_
      rintro e w3 ⟨rfl, i3, g3⟩
      have B3 : Below w.heap.size w w3 := B2.trans (g3.mono B2.size)
      clear g3
      go_wp2_with fail
      refine (C15k _ _ i3).mono ?_
      rintro e v0 ⟨rfl, rfl⟩
      clear i3
      go_wp2_with fail
      refine (C17 _ B3).mono ?_
      rintro e v0 ⟨rfl, rfl⟩
      go_wp2_with fail
      refine (marks_any _).mono ?_
      rintro e w4 ⟨rfl, i4, g4⟩
      have B4 : Below w.heap.size w w4 := B3.trans (g4.mono B3.size)
      clear g4
      go_wp2_with fail
      refine (C15m _ _ i4).mono ?_
      rintro e v0 ⟨rfl, rfl⟩
      clear i4
      go_wp2_with fail
      refine (C19 _ B4).mono ?_
      rintro e v0 ⟨rfl, rfl⟩
      go_wp2_with fail
      refine (C20 _ B4).mono ?_
      rintro e w5 ⟨rfl, g5⟩
      have B5 : Below w.heap.size w w5 := B4.trans (g5.mono B4.size)
      clear g5
      go_wp2_with fail
      refine (C21 _ B5).mono ?_
      rintro e v0 ⟨rfl, rfl⟩
      go_wp2_with fail
      refine (C22 _ B5).mono ?_
      rintro e w6 ⟨rfl, g6⟩
      have B6 : Below w.heap.size w w6 := B5.trans (g6.mono B5.size)
      clear g6
      go_wp2_with fail
      refine (C23 _ B6).mono ?_
      rintro e v0 ⟨rfl, rfl⟩
      go_wp2_with fail
      refine (C25 _ B6).mono ?_
      rintro e w7 ⟨v, rfl, own, g7⟩
      have B7 : Below w.heap.size w w7 := B6.trans (g7.mono B6.size)
      clear g7
      obtain ⟨q, c, rfl, iq⟩ := in_of_own own
      clear own
      have hl : kwT.length = 25 := rfl
      rw [hl] at iq ⊢
      clear hl
      go_wp2_with fail
      refine (refKeywords_any _).mono ?_
      rintro e w8 ⟨rfl, i8, g8⟩
      have B8 : Below w.heap.size w w8 := B7.trans (g8.mono B7.size)
      have iq2 := iq.step g8
      clear g8 iq
      go_wp2_with fail
      refine (texts_in kwT _ _ 25 _ _ _ iq2 i8 (by omega) (by omega)).mono ?_
      rintro e v0 ⟨rfl, d, rfl⟩
      clear i8 iq2
      have B9 : Below w.heap.size w (w8.drewN d) := below_drewN B8 d
      go_wp2_with fail
      refine (C8 _ B9).mono ?_
      rintro e w10 ⟨rfl, g10⟩
      have B10 : Below w.heap.size w w10 := B9.trans (g10.mono B9.size)
      clear g10
      go_wp2_with fail
      go_ret
      exact ⟨rfl, B10⟩
    · clear hr
      go_enter Tryd.func3, Tryd.ntmps3
      go_wp2_with fail
      refine (C9 _ b0).mono ?_
      rintro e v0 ⟨rfl, rfl⟩
      go_wp2_with fail
      refine (C10 _ b0).mono ?_
      rintro e w1 ⟨rfl, g1⟩
      have B1 : Below w.heap.size w w1 := b0.trans (g1.mono b0.size)
      clear g1
      go_wp2_with fail
      refine (C12 _ B1).mono ?_
      rintro e v0 ⟨rfl, rfl⟩
      go_wp2_with fail
      refine (C13 _ B1).mono ?_
      rintro e w2 ⟨rfl, g2⟩
      have B2 : Below w.heap.size w w2 := B1.trans (g2.mono B1.size)
      clear g2
      go_wp2_with fail
      refine (C14 _ B2).mono ?_
      rintro e v0 ⟨rfl, rfl⟩
      go_wp2_with fail
      refine (refKeywords_any _).mono ?_
      rintro e w3 ⟨rfl, i3, g3⟩
      have B3 : Below w.heap.size w w3 := B2.trans (g3.mono B2.size)
      clear g3
      go_wp2_with fail
      refine (C15k _ _ i3).mono ?_
      rintro e v0 ⟨rfl, rfl⟩
      clear i3
      go_wp2_with fail
      refine (C17 _ B3).mono ?_
      rintro e v0 ⟨rfl, rfl⟩
      go_wp2_with fail
      refine (marks_any _).mono ?_
      rintro e w4 ⟨rfl, i4, g4⟩
      have B4 : Below w.heap.size w w4 := B3.trans (g4.mono B3.size)
      clear g4
      go_wp2_with fail
      refine (C15m _ _ i4).mono ?_
      rintro e v0 ⟨rfl, rfl⟩
      clear i4
      go_wp2_with fail
      refine (C19 _ B4).mono ?_
      rintro e v0 ⟨rfl, rfl⟩
      go_wp2_with fail
      refine (C20 _ B4).mono ?_
      rintro e w5 ⟨rfl, g5⟩
      have B5 : Below w.heap.size w w5 := B4.trans (g5.mono B4.size)
      clear g5
      go_wp2_with fail
      refine (C21 _ B5).mono ?_
      rintro e v0 ⟨rfl, rfl⟩
      go_wp2_with fail
      refine (C22 _ B5).mono ?_
      rintro e w6 ⟨rfl, g6⟩
      have B6 : Below w.heap.size w w6 := B5.trans (g6.mono B5.size)
      clear g6
      go_wp2_with fail
      refine (C23 _ B6).mono ?_
      rintro e v0 ⟨rfl, rfl⟩
      go_wp2_with fail
      refine (C25 _ B6).mono ?_
      rintro e w7 ⟨v, rfl, own, g7⟩
      have B7 : Below w.heap.size w w7 := B6.trans (g7.mono B6.size)
      clear g7
      obtain ⟨q, c, rfl, iq⟩ := in_of_own own
      clear own
      have hl : kwT.length = 25 := rfl
      rw [hl] at iq ⊢
      clear hl
      go_wp2_with fail
      refine (refKeywords_any _).mono ?_
      rintro e w8 ⟨rfl, i8, g8⟩
      have B8 : Below w.heap.size w w8 := B7.trans (g8.mono B7.size)
      have iq2 := iq.step g8
      clear g8 iq
      go_wp2_with fail
      refine (texts_in kwT _ _ 25 _ _ _ iq2 i8 (by omega) (by omega)).mono ?_
      rintro e v0 ⟨rfl, d, rfl⟩
      clear i8 iq2
      have B9 : Below w.heap.size w (w8.drewN d) := below_drewN B8 d
      go_wp2_with fail
      refine (C8 _ B9).mono ?_
      rintro e w10 ⟨rfl, g10⟩
      have B10 : Below w.heap.size w w10 := B9.trans (g10.mono B9.size)
      clear g10
      go_wp2_with fail
      go_ret
      exact ⟨rfl, B10⟩
end Go.Proofs.YthknejgdchpaaaaDoor
