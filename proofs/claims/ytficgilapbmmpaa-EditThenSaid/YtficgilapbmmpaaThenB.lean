/-
  Then, whole: its errors, no edit for two empty lists, one edit else.
-/
import Derived.Test.YtficgilapbmmpaaThen
namespace Go.Proofs.Ytficgilapbmmpaa
open Go.RowKit
set_option linter.unusedVariables false

theorem size_of (s : ByteArray) : s.data.toList.length = s.size := by rw [Array.length_toList]; rfl

theorem then_bad1 (s : ByteArray) (p : Option Addr) (n cap : Nat) (l : List Ed) (q : Option Addr) (m cap' : Nat) (w : World) (h : EditsIn w p n cap l) (hm : n ≤ 60) (hs : s.size ≤ 100000) (hbad : checkN s.size l ≠ 0) :
    Calls Try.prog 26 #[.string s, .slice p n cap, .slice q m cap'] w fun e w' => e = .returned (.tuple #[.slice none 0 0, .int .i64 (checkN s.size l)]) ∧ Below w.heap.size w w' := by
  have HA := apply_bad s p n cap l w h hm hs hbad
  have hne : (checkN s.size l == 0) = false := by rw [beq_eq_false_iff_ne]; exact hbad
  have hne2 : (checkN s.size l != 0) = true := by rw [bne, hne]; rfl
  generalize checkN s.size l = c at *
  go_enter Try.func26, Try.ntmps26
  go_wp2_with (go_at_call 11; refine HA.mono ?_; rintro e w1 ⟨rfl, hb⟩)
  go_returns
  exact ⟨rfl, hb⟩

theorem then_bad2 (xs : List Seg) (last : List UInt8) (s : ByteArray) (hs : s.data.toList = orig xs ++ last) (hgap : Gap 0 xs) (hsz : s.size ≤ 10000) (hi : ins xs ≤ 10000)
    (p : Option Addr) (n cap : Nat) (w : World) (h : EditsIn w p n cap (edits 0 xs)) (hm : n ≤ 60)
    (q : Option Addr) (m cap' : Nat) (l' : List Ed) (h' : EditsIn w q m cap' l') (hm' : m ≤ 60) (hbad : checkN (⟨(made xs ++ last).toArray⟩ : ByteArray).size l' ≠ 0) (hmz : (⟨(made xs ++ last).toArray⟩ : ByteArray).size ≤ 100000) :
    Calls Try.prog 26 #[.string s, .slice p n cap, .slice q m cap'] w fun e w' => e = .returned (.tuple #[.slice none 0 0, .int .i64 (checkN (⟨(made xs ++ last).toArray⟩ : ByteArray).size l')]) ∧ Below w.heap.size w w' := by
  have HA := apply_ok xs last s hs hgap (by omega) (by omega) p n cap w h hm
  generalize (⟨(made xs ++ last).toArray⟩ : ByteArray) = t at *
  have HB := fun w1 (h1 : EditsIn w1 q m cap' l') => apply_bad t q m cap' l' w1 h1 hm' hmz hbad
  have hne : (checkN t.size l' == 0) = false := by rw [beq_eq_false_iff_ne]; exact hbad
  have hne2 : (checkN t.size l' != 0) = true := by rw [bne, hne]; rfl
  generalize checkN t.size l' = c at *
  have HI := Lib.hid h'
  clear h h' hs
  go_enter Try.func26, Try.ntmps26
  go_wp2_with fail
  refine HA.mono ?_
  rintro e w1 ⟨rfl, hb⟩
  go_wp2_with fail
  refine (HB _ (HI.out.step hb)).mono ?_
  rintro e w2 ⟨rfl, hb2⟩
  clear HA HB
  go_wp2
  go_returns
  exact ⟨rfl, hb.trans (hb2.mono hb.size)⟩

theorem then_none (s : ByteArray) (hsz : s.size ≤ 10000) (p : Option Addr) (cap : Nat) (q : Option Addr) (cap' : Nat) (w : World) :
    Calls Try.prog 26 #[.string s, .slice p 0 cap, .slice q 0 cap'] w fun e w' => e = .returned (.tuple #[.slice none 0 0, .int .i64 0]) ∧ Below w.heap.size w w' := by
  go_enter Try.func26, Try.ntmps26
  go_wp2_with fail
  refine (apply_nil s p cap _ (by omega)).mono ?_
  rintro e w1 ⟨rfl, hb⟩
  go_wp2_with fail
  refine (apply_nil s q cap' _ (by omega)).mono ?_
  rintro e w2 ⟨rfl, hb2⟩
  go_wp2
  go_returns
  exact ⟨rfl, hb.trans (hb2.mono hb.size)⟩

set_option maxHeartbeats 1000000 in
theorem then_one (xs : List Seg) (last : List UInt8) (s : ByteArray) (hs : s.data.toList = orig xs ++ last) (hgap : Gap 0 xs) (hsz : s.size ≤ 10000) (hi : ins xs ≤ 10000)
    (p : Option Addr) (n cap : Nat) (w : World) (h : EditsIn w p n cap (edits 0 xs)) (hm : n ≤ 60)
    (q : Option Addr) (m cap' : Nat) (ys : List Seg) (last' : List UInt8) (hy : made xs ++ last = orig ys ++ last') (hgap' : Gap 0 ys) (hi' : ins ys ≤ 10000) (h' : EditsIn w q m cap' (edits 0 ys)) (hm' : m ≤ 60) (hone : n + m ≠ 0) :
    Calls Try.prog 26 #[.string s, .slice p n cap, .slice q m cap'] w fun e w' => ∃ g c S, e = .returned (.tuple #[.slice g 1 c, .int .i64 0]) ∧ Below w.heap.size w w' ∧ EditsIn w' g 1 c (edits 0 [S]) ∧ (∃ last2, s.data.toList = orig [S] ++ last2 ∧ made [S] ++ last2 = made ys ++ last') ∧ ins [S] ≤ 30000 := by
  have hn : n = xs.length := by rw [h.1, edits_length]
  have hmn : m = ys.length := by rw [h'.1, edits_length]
  have hS : (orig xs ++ last).length = s.size := by rw [← hs, size_of]
  have hml := made_length xs
  have hml' := made_length ys
  have hyl : (made xs ++ last).length = (orig ys ++ last').length := by rw [hy]
  have hMt : (made xs ++ last).length ≤ 20000 := by simp at hS ⊢; unfold ins at hi; omega
  have hMu : (made ys ++ last').length ≤ 30000 := by simp at hyl hMt ⊢; unfold ins at hi'; omega
  have HA := apply_ok xs last s hs hgap (by omega) (by omega) p n cap w h hm
  have hts : (⟨(made xs ++ last).toArray⟩ : ByteArray).data.toList = orig ys ++ last' := by rw [← hy]
  have htz : (⟨(made xs ++ last).toArray⟩ : ByteArray).size ≤ 20000 := by show (made xs ++ last).toArray.size ≤ _; rw [List.size_toArray]; exact hMt
  have huz : (⟨(made ys ++ last').toArray⟩ : ByteArray).size = (made ys ++ last').length := by show (made ys ++ last').toArray.size = _; rw [List.size_toArray]
  have hul : (⟨(made ys ++ last').toArray⟩ : ByteArray).data.toList = made ys ++ last' := rfl
  have HB := fun w1 (h1 : EditsIn w1 q m cap' (edits 0 ys)) => apply_ok ys last' ⟨(made xs ++ last).toArray⟩ hts hgap' (by omega) (by omega) q m cap' w1 h1 hm'
  have HC := fun w1 (h1 : EditsIn w1 p n cap (edits 0 xs)) => ahead_any s xs last hs (by omega) p n cap w1 h1 hm
  have HD := fun w1 (h1 : EditsIn w1 q m cap' (edits 0 ys)) => ahead_any ⟨(made xs ++ last).toArray⟩ ys last' hts (by omega) q m cap' w1 h1 hm'
  have HE := fun w1 (h1 : EditsIn w1 p n cap (edits 0 xs)) => behind_any s xs last hs (by omega) p n cap w1 h1 hm
  have HF := fun w1 (h1 : EditsIn w1 q m cap' (edits 0 ys)) => behind_any ⟨(made xs ++ last).toArray⟩ ys last' hts (by omega) q m cap' w1 h1 hm'
  have key : ∀ hd tl, hd = min (aheadN xs last) (aheadN ys last') → tl = min last.length last'.length → hd + tl ≤ s.size ∧ hd + tl ≤ (made ys ++ last').length ∧ (s.data.toList).take hd = (made ys ++ last').take hd ∧ s.data.toList.drop (s.data.toList.length - tl) = (made ys ++ last').drop ((made ys ++ last').length - tl) := by
    intro hd tl e1 e2
    have a1 : hd ≤ aheadN xs last := by omega
    have a2 : hd ≤ aheadN ys last' := by omega
    have b1 : tl ≤ last.length := by omega
    have b2 : tl ≤ last'.length := by omega
    have t1 := take_ahead xs last hd a1
    have t2 := take_ahead ys last' hd a2
    have d1 := drop_behind (orig xs) (made xs) last tl b1
    have d2 := drop_behind (orig ys) (made ys) last' tl b2
    rw [← hs] at t1 d1
    rw [← hy] at t2 d2
    refine ⟨?_, ?_, t1.trans t2, d1.trans d2⟩
    · by_cases h0 : xs = []
      · have h1 : ys ≠ [] := fun e => hone (by rw [hn, hmn, h0, e]; rfl)
        have := (ahead_le ys last' hd tl h1 a2 b2).1
        rw [← hy, h0] at this
        rw [h0] at hS
        exact Nat.le_trans this (Nat.le_of_eq hS)
      · have := (ahead_le xs last hd tl h0 a1 b1).1
        omega
    · by_cases h1 : ys = []
      · have h0 : xs ≠ [] := fun e => hone (by rw [hn, hmn, h1, e]; rfl)
        have := (ahead_le xs last hd tl h0 a1 b1).2
        rw [hy, h1] at this
        rw [h1]
        exact this
      · exact (ahead_le ys last' hd tl h1 a2 b2).2
  have HK := Lib.hid key
  have hals : aheadN xs last ≤ 100000 := by cases xs <;> simp [aheadN, orig] at hS ⊢ <;> omega
  have haly : aheadN ys last' ≤ 100000 := by cases ys <;> simp [aheadN, orig] at hyl hMt ⊢ <;> omega
  have hlls : last.length ≤ 100000 := by simp at hS; omega
  have hlly : last'.length ≤ 100000 := by simp at hyl hMt; omega
  have HUL := Lib.hid hul
  have HUZ := Lib.hid huz
  have HIX := Lib.hid h
  have HIY := Lib.hid h'
  clear key h h' hs hul huz hts hy hyl hS hn hmn hml hml' hMt
  generalize hu : (⟨(made ys ++ last').toArray⟩ : ByteArray) = u at *
  generalize (⟨(made xs ++ last).toArray⟩ : ByteArray) = t at *
  clear hu
  generalize aheadN xs last = a1 at *
  generalize aheadN ys last' = a2 at *
  generalize last.length = b1 at *
  generalize last'.length = b2 at *
  go_enter Try.func26, Try.ntmps26
  go_wp2_with fail
  refine HA.mono ?_
  rintro e w1 ⟨rfl, hb⟩
  go_wp2_with fail
  refine (HB _ (HIY.out.step hb)).mono ?_
  rintro e w2 ⟨rfl, hb2⟩
  have hule : u.size ≤ 30000 := by have := HUZ.out; omega
  have hz1 := hb.size
  have hz2 := hb2.size
  have hinx := (HIX.out.step hb).step hb2
  have hiny := (HIY.out.step hb).step hb2
  have HX := Lib.hid hinx
  have HY := Lib.hid hiny
  obtain ⟨k1, k2, k3, k4⟩ := HK.out (min a1 a2) (min b1 b2) rfl rfl
  have k2' : min a1 a2 + min b1 b2 ≤ u.size := by rw [HUZ.out]; exact k2
  have m1 : (min (a1 : Int) a2) = ((min a1 a2 : Nat) : Int) := by omega
  have m2 : (min (b1 : Int) b2) = ((min b1 b2 : Nat) : Int) := by omega
  have hj0 : 0 ≤ min (b1 : Int) b2 := by omega
  have hj1 : min (b1 : Int) b2 ≤ s.size := by omega
  have hj2 : min (b1 : Int) b2 ≤ u.size := by omega
  have hj3 : min (a1 : Int) a2 + min (b1 : Int) b2 ≤ u.size := by omega
  have hj4 : 0 ≤ min (a1 : Int) a2 := by omega
  have hj5 : min (a1 : Int) a2 ≤ 100000 := by omega
  have K1 := Lib.hid k1
  have K2 := Lib.hid k2
  have K2' := Lib.hid k2'
  have K3 := Lib.hid k3
  have K4 := Lib.hid k4
  have M1 := Lib.hid m1
  have M2 := Lib.hid m2
  clear HA HB hinx hiny k1 k2 k2' k3 k4 m1 m2
  have rest : ∀ wz : World, Below w2.heap.size w2 wz → ∀ part : ByteArray, part = u.extract (min a1 a2) (u.size - min b1 b2) → EditsIn (wz.alloc (.cells #[.int .i64 (min (a1 : Int) a2), .int .i64 (s.size - min (b1 : Int) b2), .string part] 55)) (some ⟨wz.heap.size, 0, none⟩) 1 1 (edits 0 [oneSeg s.data.toList u.data.toList (min a1 a2) (min b1 b2)]) := by
    intro wz hz part hp
    have hsl := size_of s
    have hul := size_of u
    have q1 := K1.out
    have q2 := K2'.out
    have e2 := one_edits s.data.toList u.data.toList (min a1 a2) (min b1 b2) (by omega)
    rw [e2]
    refine ⟨rfl, .inr ⟨wz.heap.size, 0, rfl, Nat.le_refl _, by simp, fun i hi => ?_⟩⟩
    have hi0 : i = 0 := by simp at hi; omega
    subst hi0
    have hblk := heap_alloc_new wz (.cells #[.int .i64 (min (a1 : Int) a2), .int .i64 (s.size - min (b1 : Int) b2), .string part] 55)
    have f1 : (min (a1 : Int) a2) = ((min a1 a2 : Nat) : Int) := M1.out
    have f2 : ((s.size : Int) - min (b1 : Int) b2) = ((s.data.toList.length - min b1 b2 : Nat) : Int) := by rw [M2.out, hsl]; omega
    have f3 : part = ⟨((u.data.toList.drop (min a1 a2)).take (u.data.toList.length - min b1 b2 - min a1 a2)).toArray⟩ := by
      rw [hp]
      have : (u.extract (min a1 a2) (u.size - min b1 b2)).data.toList = (u.data.toList.drop (min a1 a2)).take (u.data.toList.length - min b1 b2 - min a1 a2) := by rw [Lib.extract_data, hul]
      rw [← this]
    refine ⟨?_, ?_, ?_⟩
    · rw [Lib.cell_of_heap hblk, ← f1]; rfl
    · rw [Lib.cell_of_heap hblk, ← f2]; rfl
    · rw [Lib.cell_of_heap hblk, ← f3]; rfl
  have last_ : ∃ last2, s.data.toList = orig [oneSeg s.data.toList u.data.toList (min a1 a2) (min b1 b2)] ++ last2 ∧ made [oneSeg s.data.toList u.data.toList (min a1 a2) (min b1 b2)] ++ last2 = made ys ++ last' := by
    have hsl := size_of s
    have hul := size_of u
    have q1 := K1.out
    have q2 := K2'.out
    refine ⟨_, one_orig s.data.toList u.data.toList _ _ (by omega), ?_⟩
    have := one_made s.data.toList u.data.toList (min a1 a2) (min b1 b2) (by omega) (by omega) (by rw [HUL.out]; exact K3.out) (by rw [HUL.out]; exact K4.out)
    rw [this, HUL.out]
  have lastI : ins [oneSeg s.data.toList u.data.toList (min a1 a2) (min b1 b2)] ≤ 30000 := by
    have := one_ins s.data.toList u.data.toList (min a1 a2) (min b1 b2)
    have hul := size_of u
    omega
  have HR := Lib.hid rest
  have HL := Lib.hid last_
  have HLI := Lib.hid lastI
  have HP : ∀ wz : World, Calls Try.prog 39 #[.string u, .int .i64 (min (a1 : Int) a2), .int .i64 (u.size - min (b1 : Int) b2)] wz fun e w' => e = .returned (.string (u.extract (min a1 a2) (u.size - min b1 b2))) ∧ Below wz.heap.size wz w' := fun wz => by
    have q2 := K2'.out
    have g1 : (min (a1 : Int) a2) = ((min a1 a2 : Nat) : Int) := M1.out
    have g2 : ((u.size : Int) - min (b1 : Int) b2) = ((u.size - min b1 b2 : Nat) : Int) := by rw [M2.out]; omega
    rw [g1, g2]
    exact part_yes u _ _ (by omega) (by omega) (by omega) wz
  clear rest last_ lastI
  by_cases hn0 : n = 0
  · have hne1 : ((n : Int) == 0) = true := by rw [beq_iff_eq]; omega
    have hne2 : ((m : Int) == 0) = false := by rw [beq_eq_false_iff_ne]; omega
    have HN := Lib.hid hn0
    clear hone hn0
    go_wp2_with (first | (go_at_call 40; (first | ((with_reducible refine (HC _ HX.out).mono ?_); rintro e w3 ⟨rfl, rfl⟩) | ((with_reducible refine (HD _ HY.out).mono ?_); rintro e w3 ⟨rfl, rfl⟩))) | (go_at_call 41; (first | ((with_reducible refine (HE _ HX.out).mono ?_); rintro e w3 ⟨rfl, rfl⟩) | ((with_reducible refine (HF _ HY.out).mono ?_); rintro e w3 ⟨rfl, rfl⟩))))
    refine (HP _).mono ?_
    rintro e w4 ⟨rfl, hb4⟩
    have hz4 := hb4.size
    clear HC HD HE HF HP
    go_wp2
    go_returns
    refine ⟨_, _, oneSeg s.data.toList u.data.toList (min a1 a2) (min b1 b2), rfl, ?_, HR.out _ hb4 _ rfl, HL.out, HLI.out⟩
    exact ((hb.trans (hb2.mono hz1)).trans (hb4.mono (by omega))).alloc (by omega) _
  · have hne1 : ((n : Int) == 0) = false := by rw [beq_eq_false_iff_ne]; omega
    clear hone
    go_wp2_with (first | (go_at_call 40; (first | ((with_reducible refine (HC _ HX.out).mono ?_); rintro e w3 ⟨rfl, rfl⟩) | ((with_reducible refine (HD _ HY.out).mono ?_); rintro e w3 ⟨rfl, rfl⟩))) | (go_at_call 41; (first | ((with_reducible refine (HE _ HX.out).mono ?_); rintro e w3 ⟨rfl, rfl⟩) | ((with_reducible refine (HF _ HY.out).mono ?_); rintro e w3 ⟨rfl, rfl⟩))))
    refine (HP _).mono ?_
    rintro e w4 ⟨rfl, hb4⟩
    have hz4 := hb4.size
    clear HC HD HE HF HP
    go_wp2
    go_returns
    refine ⟨_, _, oneSeg s.data.toList u.data.toList (min a1 a2) (min b1 b2), rfl, ?_, HR.out _ hb4 _ rfl, HL.out, HLI.out⟩
    exact ((hb.trans (hb2.mono hz1)).trans (hb4.mono (by omega))).alloc (by omega) _
end Go.Proofs.Ytficgilapbmmpaa
