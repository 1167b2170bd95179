/-
  The walk of EditThen: for any text and any two lists of edits it returns true, and nothing that was there before is written.
-/
import Derived.Test.YtficgilapbmmpaaAlive
import Derived.Test.YtficgilapbmmpaaThenB
namespace Go.Proofs.Ytficgilapbmmpaa
open Go.RowKit
set_option linter.unusedVariables false

theorem few_is (p : Option Addr) (n cap : Nat) (l : List Ed) (b : Bool) (hb : fewB l = b) (w : World) (h : EditsIn w p n cap l) (hm : n ≤ 9223372036854775807) :
    Calls Try.prog 9 #[.slice p n cap] w fun e w' => e = .returned (.bool b) ∧ w = w' := by
  refine (few_any p n cap l w h hm).mono ?_
  rintro e w' ⟨rfl, rfl⟩
  exact ⟨ret_bool hb, rfl⟩

theorem apply_ex (s : ByteArray) (hs : s.size ≤ 100000) (p : Option Addr) (n cap : Nat) (l : List Ed) (w : World) (h : EditsIn w p n cap l) (hf : fewB l = true) :
    Calls Try.prog 11 #[.string s, .slice p n cap] w fun e w' => ∃ u : ByteArray, e = .returned (.tuple #[.string u, .int .i64 (checkN s.size l)]) ∧ Below w.heap.size w w' := by
  obtain ⟨hl, hby⟩ := bytes_of_few hf
  have hn : n ≤ 60 := by rw [h.1]; exact hl
  by_cases hok : checkN s.size l = 0
  · have hok' := hok
    rw [← size_of s] at hok'
    obtain ⟨xs, last, hs', hx, hg⟩ := segs_of hok'
    subst hx
    rw [bytes_edits] at hby
    refine (apply_ok xs last s hs' hg hs (by unfold ins; omega) p n cap w h hn).mono ?_
    rintro e w' ⟨rfl, hb⟩
    exact ⟨_, by rw [hok], hb⟩
  · refine (apply_bad s p n cap l w h hn hs hok).mono ?_
    rintro e w' ⟨rfl, hb⟩
    exact ⟨_, rfl, hb⟩

theorem editThen_long (s : ByteArray) (p : Option Addr) (n cap : Nat) (q : Option Addr) (m cap' : Nat) (w : World) (hs : s.size ≤ 9223372036854775807) (h : 1000 < s.size) :
    Calls Try.prog 7 #[.string s, .slice p n cap, .slice q m cap'] w fun e w' => e = .returned (.bool true) ∧ Below w.heap.size w w' := by
  go_enter Try.func7, Try.ntmps7
  go_wp2_with (go_at_call 10; refine (alive_any _).mono ?_; rintro e w1 ⟨rfl, hb⟩)
  go_ret
  exact ⟨rfl, hb⟩

theorem editThen_many1 (s : ByteArray) (p : Option Addr) (n cap : Nat) (l : List Ed) (q : Option Addr) (m cap' : Nat) (w : World) (hin : EditsIn w p n cap l) (hn : n ≤ 9223372036854775807) (h : s.size ≤ 1000) (hf : fewB l = false) :
    Calls Try.prog 7 #[.string s, .slice p n cap, .slice q m cap'] w fun e w' => e = .returned (.bool true) ∧ Below w.heap.size w w' := by
  have HF := few_is p n cap l false hf w hin hn
  clear hf hin
  go_enter Try.func7, Try.ntmps7
  go_wp2_with (first | (go_at_call 9; refine HF.mono ?_; rintro e w1 ⟨rfl, rfl⟩) | (go_at_call 10; refine (alive_any _).mono ?_; rintro e w1 ⟨rfl, hb⟩))
  go_ret
  exact ⟨rfl, hb⟩

theorem editThen_many2 (s : ByteArray) (p : Option Addr) (n cap : Nat) (l : List Ed) (q : Option Addr) (m cap' : Nat) (l' : List Ed) (w : World) (hin : EditsIn w p n cap l) (hn : n ≤ 9223372036854775807) (hin' : EditsIn w q m cap' l') (hm : m ≤ 9223372036854775807) (h : s.size ≤ 1000) (hf : fewB l = true) (hf' : fewB l' = false) :
    Calls Try.prog 7 #[.string s, .slice p n cap, .slice q m cap'] w fun e w' => e = .returned (.bool true) ∧ Below w.heap.size w w' := by
  have HF := few_is p n cap l true hf w hin hn
  have HG := few_is q m cap' l' false hf' w hin' hm
  clear hf hin hf' hin'
  go_enter Try.func7, Try.ntmps7
  go_wp2_with fail
  refine HF.mono ?_
  rintro e w1 ⟨rfl, rfl⟩
  go_wp2_with fail
  refine HG.mono ?_
  rintro e w1 ⟨rfl, rfl⟩
  go_wp2_with (go_at_call 10; refine (alive_any _).mono ?_; rintro e w1 ⟨rfl, hb⟩)
  go_ret
  exact ⟨rfl, hb⟩

theorem editThen_bad1 (s : ByteArray) (p : Option Addr) (n cap : Nat) (l : List Ed) (q : Option Addr) (m cap' : Nat) (l' : List Ed) (w : World) (hin : EditsIn w p n cap l) (hin' : EditsIn w q m cap' l') (h : s.size ≤ 1000) (hf : fewB l = true) (hf' : fewB l' = true) (hbad : checkN s.size l ≠ 0) :
    Calls Try.prog 7 #[.string s, .slice p n cap, .slice q m cap'] w fun e w' => e = .returned (.bool true) ∧ Below w.heap.size w w' := by
  have hn : n ≤ 60 := by rw [hin.1]; exact (bytes_of_few hf).1
  have hm : m ≤ 60 := by rw [hin'.1]; exact (bytes_of_few hf').1
  have HF := few_is p n cap l true hf w hin (by omega)
  have HG := few_is q m cap' l' true hf' w hin' (by omega)
  have HA := apply_bad s p n cap l w hin hn (by omega) hbad
  have HB := fun w1 (h : EditsIn w1 q m cap' l') => apply_ex ⟨#[]⟩ (by decide) q m cap' l' w1 h hf'
  have HC := fun w1 (h : EditsIn w1 p n cap l) => then_bad1 s p n cap l q m cap' w1 h hn (by omega) hbad
  have hne : (checkN s.size l == 0) = false := by rw [beq_eq_false_iff_ne]; exact hbad
  have hne2 : (checkN s.size l != 0) = true := by rw [bne, hne]; rfl
  generalize checkN s.size l = c at *
  generalize checkN ((⟨#[]⟩ : ByteArray).size) l' = c' at *
  have HI := Lib.hid hin
  have HJ := Lib.hid hin'
  clear hf hin hf' hin'
  go_enter Try.func7, Try.ntmps7
  go_wp2_with fail
  refine HF.mono ?_
  rintro e w1 ⟨rfl, rfl⟩
  go_wp2_with fail
  refine HG.mono ?_
  rintro e w1 ⟨rfl, rfl⟩
  go_wp2_with fail
  refine HA.mono ?_
  rintro e w1 ⟨rfl, hb1⟩
  go_wp2_with fail
  refine (HB _ (HJ.out.step hb1)).mono ?_
  rintro e w2 ⟨u, rfl, hb2⟩
  go_wp2_with fail
  refine (HC _ ((HI.out.step hb1).step hb2)).mono ?_
  rintro e w3 ⟨rfl, hb3⟩
  have hz1 := hb1.size
  have hz2 := hb2.size
  have hz3 := hb3.size
  clear HF HG HA HB HC
  go_wp2_with (first | (go_at_call 13; refine (no_any _ _).mono ?_; rintro e w4 ⟨rfl, rfl⟩) | (go_at_call 10; refine (alive_any _).mono ?_; rintro e w4 ⟨rfl, hb4⟩))
  go_ret
  exact ⟨rfl, ((hb1.trans (hb2.mono hz1)).trans (hb3.mono (by omega))).trans (hb4.mono (by omega))⟩

theorem editThen_bad2 (s : ByteArray) (p : Option Addr) (n cap : Nat) (xs : List Seg) (last : List UInt8) (hs : s.data.toList = orig xs ++ last) (hg : Gap 0 xs) (q : Option Addr) (m cap' : Nat) (l' : List Ed) (w : World) (hin : EditsIn w p n cap (edits 0 xs)) (hin' : EditsIn w q m cap' l') (h : s.size ≤ 1000) (hf : fewB (edits 0 xs) = true) (hf' : fewB l' = true)
    (hbad : checkN (⟨(made xs ++ last).toArray⟩ : ByteArray).size l' ≠ 0) (htz : (⟨(made xs ++ last).toArray⟩ : ByteArray).size ≤ 4000) (hins : ins xs ≤ 2000) :
    Calls Try.prog 7 #[.string s, .slice p n cap, .slice q m cap'] w fun e w' => e = .returned (.bool true) ∧ Below w.heap.size w w' := by
  have hn : n ≤ 60 := by rw [hin.1]; exact (bytes_of_few hf).1
  have hm : m ≤ 60 := by rw [hin'.1]; exact (bytes_of_few hf').1
  have HF := few_is p n cap _ true hf w hin (by omega)
  have HG := few_is q m cap' l' true hf' w hin' (by omega)
  have HA := apply_ok xs last s hs hg (by omega) (by omega) p n cap w hin hn
  have HC := fun w1 (h : EditsIn w1 p n cap (edits 0 xs)) (h' : EditsIn w1 q m cap' l') => then_bad2 xs last s hs hg (by omega) (by omega) p n cap w1 h hn q m cap' l' h' hm hbad (by omega)
  generalize (⟨(made xs ++ last).toArray⟩ : ByteArray) = t at *
  have HB := fun w1 (h : EditsIn w1 q m cap' l') => apply_bad t q m cap' l' w1 h hm (by omega) hbad
  have hne : (checkN t.size l' == 0) = false := by rw [beq_eq_false_iff_ne]; exact hbad
  have hne2 : (checkN t.size l' != 0) = true := by rw [bne, hne]; rfl
  generalize checkN t.size l' = c at *
  have HI := Lib.hid hin
  have HJ := Lib.hid hin'
  clear hf hin hf' hin' hs
  go_enter Try.func7, Try.ntmps7
  go_wp2_with fail
  refine HF.mono ?_
  rintro e w1 ⟨rfl, rfl⟩
  go_wp2_with fail
  refine HG.mono ?_
  rintro e w1 ⟨rfl, rfl⟩
  go_wp2_with fail
  refine HA.mono ?_
  rintro e w1 ⟨rfl, hb1⟩
  go_wp2_with fail
  refine (HB _ (HJ.out.step hb1)).mono ?_
  rintro e w2 ⟨rfl, hb2⟩
  go_wp2_with fail
  refine (HC _ ((HI.out.step hb1).step hb2) ((HJ.out.step hb1).step hb2)).mono ?_
  rintro e w3 ⟨rfl, hb3⟩
  have hz1 := hb1.size
  have hz2 := hb2.size
  have hz3 := hb3.size
  clear HF HG HA HB HC
  go_wp2_with (first | (go_at_call 13; refine (no_any _ _).mono ?_; rintro e w4 ⟨rfl, rfl⟩) | (go_at_call 10; refine (alive_any _).mono ?_; rintro e w4 ⟨rfl, hb4⟩))
  go_ret
  exact ⟨rfl, ((hb1.trans (hb2.mono hz1)).trans (hb3.mono (by omega))).trans (hb4.mono (by omega))⟩

theorem editThen_none (s : ByteArray) (p : Option Addr) (cap : Nat) (q : Option Addr) (cap' : Nat) (w : World) (h : s.size ≤ 1000) :
    Calls Try.prog 7 #[.string s, .slice p 0 cap, .slice q 0 cap'] w fun e w' => e = .returned (.bool true) ∧ Below w.heap.size w w' := by
  go_enter Try.func7, Try.ntmps7
  go_wp2_with fail
  refine (few_none p cap _).mono ?_
  rintro e w1 ⟨rfl, rfl⟩
  go_wp2_with fail
  refine (few_none q cap' _).mono ?_
  rintro e w1 ⟨rfl, rfl⟩
  go_wp2_with fail
  refine (apply_nil s p cap _ (by omega)).mono ?_
  rintro e w1 ⟨rfl, hb1⟩
  go_wp2_with fail
  refine (apply_nil s q cap' _ (by omega)).mono ?_
  rintro e w2 ⟨rfl, hb2⟩
  go_wp2_with fail
  refine (then_none s (by omega) p cap q cap' _).mono ?_
  rintro e w3 ⟨rfl, hb3⟩
  go_wp2_with (go_at_call 13; refine (no_any _ _).mono ?_; rintro e w4 ⟨rfl, rfl⟩)
  refine (apply_nil s none 0 _ (by omega)).mono ?_
  rintro e w5 ⟨rfl, hb5⟩
  have hz1 := hb1.size
  have hz2 := hb2.size
  have hz3 := hb3.size
  have hz5 := hb5.size
  go_wp2_with (first | (go_at_call 13; refine (no_any _ _).mono ?_; rintro e w4 ⟨rfl, rfl⟩) | (go_at_call 10; refine (alive_any _).mono ?_; rintro e w4 ⟨rfl, hb4⟩))
  go_ret
  exact ⟨rfl, (((hb1.trans (hb2.mono hz1)).trans (hb3.mono (by omega))).trans (hb5.mono (by omega))).trans (hb4.mono (by omega))⟩

theorem editThen_ok (s : ByteArray) (p : Option Addr) (n cap : Nat) (xs : List Seg) (last : List UInt8) (hs : s.data.toList = orig xs ++ last) (hg : Gap 0 xs) (q : Option Addr) (m cap' : Nat) (ys : List Seg) (last' : List UInt8) (hy : made xs ++ last = orig ys ++ last') (hg' : Gap 0 ys) (w : World) (hin : EditsIn w p n cap (edits 0 xs)) (hin' : EditsIn w q m cap' (edits 0 ys)) (h : s.size ≤ 1000) (hf : fewB (edits 0 xs) = true) (hf' : fewB (edits 0 ys) = true)
    (htz : (⟨(made xs ++ last).toArray⟩ : ByteArray).size ≤ 4000) (hins : ins xs ≤ 2000) (hins' : ins ys ≤ 2000) (hone : n + m ≠ 0) :
    Calls Try.prog 7 #[.string s, .slice p n cap, .slice q m cap'] w fun e w' => e = .returned (.bool true) ∧ Below w.heap.size w w' := by
  have hn : n ≤ 60 := by rw [hin.1]; exact (bytes_of_few hf).1
  have hm : m ≤ 60 := by rw [hin'.1]; exact (bytes_of_few hf').1
  have HF := few_is p n cap _ true hf w hin (by omega)
  have HG := few_is q m cap' _ true hf' w hin' (by omega)
  have HA := apply_ok xs last s hs hg (by omega) (by omega) p n cap w hin hn
  have hts : (⟨(made xs ++ last).toArray⟩ : ByteArray).data.toList = orig ys ++ last' := by rw [← hy]
  have HB := fun w1 (h : EditsIn w1 q m cap' (edits 0 ys)) => apply_ok ys last' ⟨(made xs ++ last).toArray⟩ hts hg' (by omega) (by omega) q m cap' w1 h hm
  have HC := fun w1 (h : EditsIn w1 p n cap (edits 0 xs)) (h' : EditsIn w1 q m cap' (edits 0 ys)) => then_one xs last s hs hg (by omega) (by omega) p n cap w1 h hn q m cap' ys last' hy hg' (by omega) h' hm hone
  have HD : ∀ w1 g c S, EditsIn w1 g 1 c (edits 0 [S]) → (∃ last2, s.data.toList = orig [S] ++ last2 ∧ made [S] ++ last2 = made ys ++ last') → ins [S] ≤ 30000 → Calls Try.prog 11 #[.string s, .slice g 1 c] w1 fun e w' => e = .returned (.tuple #[.string ⟨(made ys ++ last').toArray⟩, .int .i64 0]) ∧ Below w1.heap.size w1 w' := by
    rintro w1 g c S hS ⟨last2, e1, e2⟩ hi
    rw [← e2]
    exact apply_ok [S] last2 s e1 ⟨Nat.zero_le _, trivial⟩ (by omega) (by omega) g 1 c w1 hS (by omega)
  generalize (⟨(made xs ++ last).toArray⟩ : ByteArray) = t at *
  generalize (⟨(made ys ++ last').toArray⟩ : ByteArray) = u at *
  have HI := Lib.hid hin
  have HJ := Lib.hid hin'
  have HH := Lib.hid hone
  clear hf hin hf' hin' hs hts hy hone
  go_enter Try.func7, Try.ntmps7
  go_wp2_with fail
  refine HF.mono ?_
  rintro e w1 ⟨rfl, rfl⟩
  go_wp2_with fail
  refine HG.mono ?_
  rintro e w1 ⟨rfl, rfl⟩
  go_wp2_with fail
  refine HA.mono ?_
  rintro e w1 ⟨rfl, hb1⟩
  go_wp2_with fail
  refine (HB _ (HJ.out.step hb1)).mono ?_
  rintro e w2 ⟨rfl, hb2⟩
  go_wp2_with fail
  refine (HC _ ((HI.out.step hb1).step hb2) ((HJ.out.step hb1).step hb2)).mono ?_
  rintro e w3 ⟨g, c, S, rfl, hb3, hS, hL, hI⟩
  have HE := fun w1 (h : EditsIn w1 g 1 c (edits 0 [S])) => HD w1 g c S h hL hI
  have HS := Lib.hid hS
  clear HF HG HA HB HC HD hS hL hI
  go_wp2_with (go_at_call 13; refine (no_any _ _).mono ?_; rintro e w4 ⟨rfl, rfl⟩)
  refine (HE _ HS.out).mono ?_
  rintro e w5 ⟨rfl, hb5⟩
  have hz1 := hb1.size
  have hz2 := hb2.size
  have hz3 := hb3.size
  have hz5 := hb5.size
  clear HE
  go_wp2_with (first | (go_at_call 13; refine (no_any _ _).mono ?_; rintro e w4 ⟨rfl, rfl⟩) | (go_at_call 10; refine (alive_any _).mono ?_; rintro e w4 ⟨rfl, hb4⟩))
  go_ret
  exact ⟨rfl, (((hb1.trans (hb2.mono hz1)).trans (hb3.mono (by omega))).trans (hb5.mono (by omega))).trans (hb4.mono (by omega))⟩

theorem editThen_walk (s : ByteArray) (p : Option Addr) (n cap : Nat) (l : List Ed) (q : Option Addr) (m cap' : Nat) (l' : List Ed) (w : World) (hs : s.size ≤ 9223372036854775807) (hn : n ≤ 9223372036854775807) (hin : EditsIn w p n cap l) (hm : m ≤ 9223372036854775807) (hin' : EditsIn w q m cap' l') :
    Calls Try.prog 7 #[.string s, .slice p n cap, .slice q m cap'] w fun e w' => e = .returned (.bool true) ∧ Below w.heap.size w w' := by
  by_cases h1 : 1000 < s.size
  · exact editThen_long s p n cap q m cap' w hs h1
  by_cases h2 : fewB l = true
  · by_cases h3 : fewB l' = true
    · by_cases h4 : checkN s.size l = 0
      · rw [← size_of s] at h4
        obtain ⟨xs, last, hx, hl, hg⟩ := segs_of h4
        subst hl
        have hb := (bytes_of_few h2).2
        rw [bytes_edits] at hb
        have hb' := (bytes_of_few h3).2
        have ho : (orig xs ++ last).length = s.size := by rw [← hx, size_of]
        have hml := made_length xs
        have htz : (⟨(made xs ++ last).toArray⟩ : ByteArray).size ≤ 4000 := by
          show (made xs ++ last).toArray.size ≤ _
          rw [List.size_toArray]; simp at ho ⊢; omega
        by_cases h5 : checkN (⟨(made xs ++ last).toArray⟩ : ByteArray).size l' = 0
        · rw [← size_of ⟨(made xs ++ last).toArray⟩] at h5
          obtain ⟨ys, last', hy, hl', hg'⟩ := segs_of h5
          subst hl'
          rw [bytes_edits] at hb'
          by_cases h6 : n + m = 0
          · obtain ⟨rfl, rfl⟩ : n = 0 ∧ m = 0 := by omega
            exact editThen_none s p cap q cap' w (by omega)
          · exact editThen_ok s p n cap xs last hx hg q m cap' ys last' hy hg' w hin hin' (by omega) h2 h3 htz hb hb' h6
        · exact editThen_bad2 s p n cap xs last hx hg q m cap' l' w hin hin' (by omega) h2 h3 h5 htz hb
      · exact editThen_bad1 s p n cap l q m cap' l' w hin hin' (by omega) h2 h3 h4
    · exact editThen_many2 s p n cap l q m cap' l' w hin hn hin' hm (by omega) h2 (by simpa using h3)
  · exact editThen_many1 s p n cap l q m cap' w hin hn (by omega) (by simpa using h2)
end Go.Proofs.Ytficgilapbmmpaa
