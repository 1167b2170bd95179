/-
  The document's lexer: the token at a place.; The document's lexer: all tokens of a text, those that say something, and the first bad one.; The document's lexer: the first bad token.; Numbers by a modulus.; A text with blanks and a note between its tokens has the same tokens: plain facts.; A text with blanks and a note between its tokens is read as it is: the outcome; spaced and read walked.; ParseBlanks: the law's own walk.; The law's walk, as the row's frame calls it.
-/
import Derived.Test.YtkjgkchdkeggoaaGreatDoorFa
import Derived.Test.YtkjgkchdkeggoaaGreatDoorKeep
import Derived.Test.YtkjgkchdkeggoaaGreatDoorFiles
import Derived.Test.YtkjgkchdkeggoaaGreatDoorBase
import Derived.Test.YtkjgkchdkeggoaaGreatDoorLaid
namespace Go.Proofs.YtkjgkchdkeggoaaGreatDoor
open Go.RowKit
set_option maxRecDepth 20000
set_option linter.unusedVariables false
set_option linter.unusedSimpArgs false

theorem pass_at' (g : UInt8 → Bool) (s : ByteArray) (k : Nat) (h : k < s.size) (hg : g s[k] = true) : passN (pureF g) () (s.data.toList.drop k) = 1 + passN (pureF g) () (s.data.toList.drop (k + 1)) := by
 rw [drop_at s k h]
 simp only [passN, pureF, hg, cond_true]
 have e : passN (fun (x : Unit) d => ((), g d)) () (s.data.toList.drop (k + 1)) = passN (pureF g) () (s.data.toList.drop (k + 1)) := rfl
 omega
theorem pass_no' (g : UInt8 → Bool) (s : ByteArray) (k : Nat) (h : k < s.size) (hg : g s[k] = false) : passN (pureF g) () (s.data.toList.drop k) = 0 := by
 rw [drop_at s k h]
 simp [passN, pureF, hg]
theorem pass_end' (g : UInt8 → Bool) (s : ByteArray) (k : Nat) (h : s.size ≤ k) : passN (pureF g) () (s.data.toList.drop k) = 0 := by
 rw [List.drop_eq_nil_of_le (by rw [data_len]; exact h)]; rfl
/-- A box of a token. -/
structure Box3 (W : World) (b : Nat) (x y z : Int) : Prop where
 cells : W.heap[b]? = some (.cells #[.int .i64 x, .int .i64 y, .int .i64 z] 39 (0, 0))
section
variable {W W' : World} {b : Nat} {x y z : Int}
theorem Box3.c0 (h : Box3 W b x y z) : W.cell? ⟨b, 0, none⟩ = some (.int .i64 x) := Lib.cell_of_heap h.cells 0
theorem Box3.c1 (h : Box3 W b x y z) : W.cell? ⟨b, 1, none⟩ = some (.int .i64 y) := Lib.cell_of_heap h.cells 1
theorem Box3.c2 (h : Box3 W b x y z) : W.cell? ⟨b, 2, none⟩ = some (.int .i64 z) := Lib.cell_of_heap h.cells 2
theorem Box3.f (h : Box3 W b x y z) (i : Nat) : W.frozen? ⟨b, i, none⟩ = false := cells_frozen h.cells i
theorem Box3.lt (h : Box3 W b x y z) : b < W.heap.size := (Array.getElem?_eq_some_iff.1 h.cells).1
theorem Box3.step (h : Box3 W b x y z) (hb : Below W.heap.size W W') : Box3 W' b x y z := ⟨(hb.block _ h.lt).trans h.cells⟩
theorem Box3.keep (h : Box3 W b x y z) {g : Nat} (hg : W.grownBy W' (some g)) (hn : b ≠ g) : Box3 W' b x y z := ⟨(hg.block _ h.lt (fun e => hn (Option.some.inj e))).trans h.cells⟩
theorem Box3.set0 (h : Box3 W b x y z) (x' : Int) : Box3 (W.setCell ⟨b, 0, none⟩ (.int .i64 x')) b x' y z := ⟨by rw [heap_setCell_same W b 0 _ _ _ h.cells]; rfl⟩
theorem Box3.set1 (h : Box3 W b x y z) (x' : Int) : Box3 (W.setCell ⟨b, 1, none⟩ (.int .i64 x')) b x x' z := ⟨by rw [heap_setCell_same W b 1 _ _ _ h.cells]; rfl⟩
theorem Box3.set2 (h : Box3 W b x y z) (x' : Int) : Box3 (W.setCell ⟨b, 2, none⟩ (.int .i64 x')) b x y x' := ⟨by rw [heap_setCell_same W b 2 _ _ _ h.cells]; rfl⟩
theorem Box3.set (h : Box3 W b x y z) (x' y' z' : Int) : Box3 (((W.setCell ⟨b, 0, none⟩ (.int .i64 x')).setCell ⟨b, 1, none⟩ (.int .i64 y')).setCell ⟨b, 2, none⟩ (.int .i64 z')) b x' y' z' := ((h.set0 x').set1 y').set2 z'
end
/-- What is kept while a token is made: its box, the result's box. -/
structure Nx (w : World) (k : Int) (a E : Nat) (W : World) : Prop where
 own : Box3 W (w.heap.size + 1) k a E
 res : Box3 W w.heap.size 0 0 0
 below : Below w.heap.size w W
section
variable {w W W' : World} {k : Int} {a E : Nat}
theorem Nx.step (h : Nx w k a E W) (hb : Below W.heap.size W W') : Nx w k a E W' := ⟨h.own.step hb, h.res.step hb, h.below.trans (hb.mono h.below.size)⟩
theorem Nx.setE (h : Nx w k a E W) (E' : Nat) : Nx w k a E' (W.setCell ⟨w.heap.size + 1, 2, none⟩ (.int .i64 (E' : Int))) :=
 ⟨h.own.set2 _, h.res.keep (grown_set _ _ _) (by omega), h.below.grown (grown_set _ _ _) h.below.size (fun q hq => by have := Option.some.inj hq; omega)⟩
theorem Nx.setK (h : Nx w k a E W) (k' : Int) : Nx w k' a E (W.setCell ⟨w.heap.size + 1, 0, none⟩ (.int .i64 k')) :=
 ⟨h.own.set0 _, h.res.keep (grown_set _ _ _) (by omega), h.below.grown (grown_set _ _ _) h.below.size (fun q hq => by have := Option.some.inj hq; omega)⟩
theorem nx_new (w : World) (k : Int) (a E : Nat) : Nx w k a E ((w.alloc (.cells #[.int .i64 0, .int .i64 0, .int .i64 0] 39)).alloc (.cells #[.int .i64 k, .int .i64 (a : Int), .int .i64 (E : Int)] 39)) := by
 have h1 := heap_alloc_new w (.cells #[.int .i64 0, .int .i64 0, .int .i64 0] 39)
 have b1 : Below w.heap.size w (w.alloc (.cells #[.int .i64 0, .int .i64 0, .int .i64 0] 39)) := (Below.refl _ _).alloc (Nat.le_refl _) _
 generalize hA : w.alloc (.cells #[.int .i64 0, .int .i64 0, .int .i64 0] 39) = A at *
 have hz : A.heap.size = w.heap.size + 1 := by rw [← hA]; simp
 have h2 := heap_alloc_new A (.cells #[.int .i64 k, .int .i64 (a : Int), .int .i64 (E : Int)] 39)
 have b2 : Below A.heap.size A (A.alloc (.cells #[.int .i64 k, .int .i64 (a : Int), .int .i64 (E : Int)] 39)) := (Below.refl _ _).alloc (Nat.le_refl _) _
 rw [hz] at h2
 exact ⟨⟨h2⟩, ⟨(b2.block _ (by omega)).trans h1⟩, b1.trans (b2.mono b1.size)⟩
end
theorem kind_digit (s : ByteArray) (h : 0 < s.size) (hd : digB s[0] = true) : kindN s = 0 := by
 have hb : begN s = 0 := by
  rw [beg_eq s h]
  have h1 : lowB s[0] = false := by unfold digB at hd; unfold lowB; simp at hd ⊢; omega
  have h2 : capB s[0] = false := by unfold digB at hd; unfold capB; simp at hd ⊢; omega
  have h3 : signB s[0] = false := rest_sign _ (by unfold restB; simp [hd])
  have h4 : ((s[0].toNat : Int) == 39) = false := by unfold digB at hd; simp at hd ⊢; omega
  rw [h1, h2, h3, h4]; rfl
 have hm : mkB s = false := by
  cases e : mkB s
  ·rfl
  ·exfalso
   rw [mk_iff] at e
   have hx : s.toList = s[0] :: s.data.toList.drop 1 := by rw [Lib.toList_data]; exact data_cons s h
   rw [hx] at e
   have h0 : ∀ n : UInt8, n.toNat < 48 ∨ 57 < n.toNat → s[0] ≠ n := fun n hn e => by
    subst e
    unfold digB at hd; simp at hd; omega
   have z1 := h0 40 (by decide); have z2 := h0 41 (by decide); have z3 := h0 44 (by decide); have z4 := h0 46 (by decide)
   have z5 := h0 59 (by decide); have z6 := h0 95 (by decide); have z7 := h0 61 (by decide); have z8 := h0 124 (by decide)
   have z9 := h0 58 (by decide); have z10 := h0 45 (by decide)
   simp [z1, z2, z3, z4, z5, z6, z7, z8, z9, z10] at e
 unfold kindN
 rw [hm, hb]; rfl
/-- All of these bytes are digits. -/
def dgB (s : ByteArray) (a E : Nat) : Bool := ((s.data.toList.drop a).take (E - a)).all digB
theorem dgB_one (s : ByteArray) (a : Nat) (h : a < s.size) : dgB s a (a + 1) = digB s[a] := by
 unfold dgB
 rw [drop_at s a h, show a + 1 - a = 1 by omega]; simp
theorem dgB_more (s : ByteArray) (a E : Nat) (h : E < s.size) (ha : a ≤ E) : dgB s a (E + 1) = (dgB s a E && digB s[E]) := by
 unfold dgB
 have hl : E - a < (s.data.toList.drop a).length := by rw [List.length_drop, data_len]; omega
 rw [show E + 1 - a = (E - a) + 1 by omega, List.take_succ_eq_append_getElem hl, List.all_append]
 have : (s.data.toList.drop a)[E - a]'hl = s[E] := by
  rw [List.getElem_drop]
  have := data_at s E h
  simp only [show a + (E - a) = E by omega, this]
 rw [this]; simp
theorem pass_all (l : List UInt8) : (passN (pureF digB) () l == l.length) = l.all digB := by
 induction l with
 | nil => rfl
 | cons c r ih =>
  simp only [passN, pureF, List.length_cons, List.all_cons]
  cases digB c
  ·simp
  ·simp only [cond_true, Bool.true_and, ← ih]
   rw [Bool.eq_iff_iff]; simp [pureF]
/-- What a token of rests, signs or another byte is. -/
def kdN (s : ByteArray) (a E : Nat) : Int := bif dgB s a E then 4 else bif kindN (s.extract a E) == 0 then 3 else kindN (s.extract a E)
theorem kdN_plain (s : ByteArray) (a n : Nat) (h : a + n ≤ s.size) (hn : 0 < n) : plainN (s.extract a (a + n)).data.toList = kdN s a (a + n) := by
 have hx : (s.extract a (a + n)).data.toList = (s.data.toList.drop a).take n := extract_drop s a n
 have hsz : 0 < (s.extract a (a + n)).size := by simp; omega
 have h0 : (s.extract a (a + n)).data.toList = (s.extract a (a + n))[0] :: (s.extract a (a + n)).data.toList.drop 1 := data_cons _ hsz
 have hb : bsOf (s.extract a (a + n)).data.toList = s.extract a (a + n) := by unfold bsOf; exact Lib.mk_data _
 have hd : dgB s a (a + n) = (s.extract a (a + n)).data.toList.all digB := by unfold dgB; rw [hx, show a + n - a = n by omega]
 have hk := kind_digit _ hsz
 unfold kdN
 rw [hd]
 unfold plainN
 rw [← pass_all]
 generalize hp : s.extract a (a + n) = p at *
 rw [h0]
 simp only
 rw [← h0, hb]
 cases e : digB p[0]
 ·have : (passN (pureF digB) () p.data.toList == p.data.toList.length) = false := by
   rw [pass_all, h0]; simp [e]
  rw [this]; simp
 ·rw [hk e]; simp
set_option maxHeartbeats 4000000 in
theorem dnext_blank (s : ByteArray) (hs : s.size ≤ 1000000) (a : Nat) (ha : a < s.size) (h1 : blankB s[a] = true) (w : World) :
  Calls Tryz.prog 40 #[.string s, .int .i64 a] w fun e w' => e = .returned (tokV a (tokN (s.data.toList.drop a))) ∧ Below w.heap.size w w' := by
 have hT := tokN_at s a ha
 rw [h1] at hT
 have hP := pass_at' blankB s a ha h1
 have HB := fun W => dblank_any s[a] W
 rw [h1] at HB
 obtain ⟨T, hTT⟩ : ∃ T : Nat, T = a + passN (pureF blankB) () (s.data.toList.drop a) := ⟨_, rfl⟩
 have hT2 : tokN (s.data.toList.drop a) = (1, T - a) := by rw [hT, hTT]; simp
 have H0 := Lib.hid (show T = a + 1 + passN (pureF blankB) () (s.data.toList.drop (a + 1)) by rw [hTT, hP]; omega)
 have HT := Lib.hid hT2
 clear h1 hT hP hTT hT2
 go_enter Tryz.func40, Tryz.ntmps40
 go_wp2_with fail
 refine (HB _).mono ?_
 rintro e w1 ⟨rfl, rfl⟩
 go_wp2_with fail
 have HN := Lib.hid (nx_new w 1 a (a + 1))
 rw [show ((a + 1 : Nat) : Int) = (a : Int) + 1 by omega] at HN
 generalize ((w.alloc (.cells #[.int .i64 0, .int .i64 0, .int .i64 0] 39)).alloc (.cells #[.int .i64 1, .int .i64 (a : Int), .int .i64 ((a : Int) + 1)] 39)) = W0 at *
 clear HB
 go_loopg [] (s.size + 1) (fun gk wr => ∃ E : Nat, E + gk = s.size + 1 + (a + 1) ∧ a < E ∧ E ≤ s.size ∧ Hid (T = E + passN (pureF blankB) () (s.data.toList.drop E)) ∧ Hid (Nx w 1 a E wr))
 case atStart => exact ⟨a + 1, by omega, by omega, by omega, H0, HN⟩
 case round =>
  obtain ⟨E, hg, haE, hE, hq, hn⟩ := hrel
  have c0 := hn.out.own.c0
  have c1 := hn.out.own.c1
  have c2 := hn.out.own.c2
  have f0 := hn.out.own.f 0
  have f2 := hn.out.own.f 2
  have r0 := hn.out.res.c0
  have r1 := hn.out.res.c1
  have r2 := hn.out.res.c2
  have g0 := hn.out.res.f 0
  have g1 := hn.out.res.f 1
  have g2 := hn.out.res.f 2
  clear H0 HN
  by_cases hlt : E < s.size
  ·have HC := fun W => dblank_any s[E] W
   cases h1 : blankB s[E]
   ·rw [h1] at HC
    have HE := Lib.hid (hq.out.trans (by rw [pass_no' blankB s E hlt h1]))
    clear hq h1
    go_wp2_with fail
    refine (HC _).mono ?_
    rintro e w1 ⟨rfl, rfl⟩
    go_wp2_with fail
    have HR2 := hn.out.res.set 1 (a : Int) (E : Int)
    have HB2 := Lib.hid (((hn.out.below.setCell (p := ⟨w.heap.size, 0, none⟩) (Nat.le_refl _) (.int .i64 1)).setCell (p := ⟨w.heap.size, 1, none⟩) (Nat.le_refl _) (.int .i64 (a : Int))).setCell (p := ⟨w.heap.size, 2, none⟩) (Nat.le_refl _) (.int .i64 (E : Int)))
    clear c0 c1 c2 f0 f2 r0 r1 r2 g0 g1 g2 hn
    generalize (((wr.setCell ⟨w.heap.size, 0, none⟩ (.int .i64 1)).setCell ⟨w.heap.size, 1, none⟩ (.int .i64 (a : Int))).setCell ⟨w.heap.size, 2, none⟩ (.int .i64 (E : Int))) = W2 at *
    have c0 := HR2.c0
    have c1 := HR2.c1
    have c2 := HR2.c2
    try simp only [Exit.inBlock, Exit.then]
    refine bodyPost_ret (by simp [results, Tryz.results40, go_sem, c0, c1, c2, Result.andThen]; try rfl) rfl ?_
    exact ⟨tok_ret (E := E) (by rw [HT.out, HE.out]; rfl) (by omega), HB2.out⟩
   ·rw [h1] at HC
    have HE := Lib.hid (hq.out.trans (show E + _ = E + 1 + passN (pureF blankB) () (s.data.toList.drop (E + 1)) by rw [pass_at' blankB s E hlt h1]; omega))
    have HX := Lib.hid (hn.out.setE (E + 1))
    have HI := Lib.hid (show ((E : Int) + 1) = ((E + 1 : Nat) : Int) by omega)
    clear hq h1
    go_wp2_with fail
    refine (HC _).mono ?_
    rintro e w1 ⟨rfl, rfl⟩
    go_wp2_with fail
    go_roundg (gk - 1)
    case rel => exact ⟨E + 1, by omega, by omega, by omega, HE, by rw [HI.out]; exact HX⟩
    case measure => omega
  ·have HE := Lib.hid (hq.out.trans (by rw [pass_end' blankB s E (by omega)]))
   have hge : ¬ (E : Int) < (s.size : Int) := by omega
   clear hq
   go_wp2_with fail
   have HR2 := hn.out.res.set 1 (a : Int) (E : Int)
   have HB2 := Lib.hid (((hn.out.below.setCell (p := ⟨w.heap.size, 0, none⟩) (Nat.le_refl _) (.int .i64 1)).setCell (p := ⟨w.heap.size, 1, none⟩) (Nat.le_refl _) (.int .i64 (a : Int))).setCell (p := ⟨w.heap.size, 2, none⟩) (Nat.le_refl _) (.int .i64 (E : Int)))
   clear c0 c1 c2 f0 f2 r0 r1 r2 g0 g1 g2 hn
   generalize (((wr.setCell ⟨w.heap.size, 0, none⟩ (.int .i64 1)).setCell ⟨w.heap.size, 1, none⟩ (.int .i64 (a : Int))).setCell ⟨w.heap.size, 2, none⟩ (.int .i64 (E : Int))) = W2 at *
   have c0 := HR2.c0
   have c1 := HR2.c1
   have c2 := HR2.c2
   try simp only [Exit.inBlock, Exit.then]
   refine bodyPost_ret (by simp [results, Tryz.results40, go_sem, c0, c1, c2, Result.andThen]; try rfl) rfl ?_
   exact ⟨tok_ret (E := E) (by rw [HT.out, HE.out]; rfl) (by omega), HB2.out⟩
theorem note_kind (l : List UInt8) : ((noteN l).1 = 2 ∨ (noteN l).1 = 3) ∧ ((noteN l).1 = 3 → (noteN l).2 = l.length) := by
 unfold noteN
 simp only
 cases e : (passN nF (0, 0) l == l.length)
 ·exact ⟨.inl rfl, fun h => by simp at h⟩
 ·exact ⟨.inr rfl, fun _ => by simpa using e⟩
theorem passN_line (r : List UInt8) : ∀ n, n ≤ passN qF false r → passN (pureF lineB) () r = n + passN (pureF lineB) () (r.drop n) := by
 have key : ∀ (l : List UInt8) (e : Bool) n, n ≤ passN qF e l → passN (pureF lineB) () l = n + passN (pureF lineB) () (l.drop n) := by
  intro l
  induction l with
  | nil => intro e n h; simp [passN] at h; subst h; simp
  | cons c l ih =>
   intro e n h
   cases n with
   | zero => simp
   | succ n =>
    simp only [passN] at h
    cases hq : (qF e c).2
    ·rw [hq] at h; simp at h
    ·rw [hq] at h
     simp only [cond_true] at h
     have hl : lineB c = true := by
      unfold lineB
      cases hc : eqB c 10
      ·rfl
      ·unfold qF at hq
       unfold eqB at *
       rw [beq_iff_eq.1 hc] at hq
       cases e <;> simp at hq
     have := ih (qF e c).1 n (by omega)
     simp only [passN, pureF, hl, cond_true, List.drop_succ_cons] at this ⊢
     have e2 : passN (fun (x : Unit) d => ((), lineB d)) () l = passN (pureF lineB) () l := rfl
     have e3 : passN (fun (x : Unit) d => ((), lineB d)) () (l.drop n) = passN (pureF lineB) () (l.drop n) := rfl
     omega
 exact key r false
theorem quote_bad (r : List UInt8) (h : (quoteN r).1 ≠ 5) : quoteN r = (3, 1 + passN (pureF lineB) () r) := by
 unfold quoteN at h ⊢
 simp only at h ⊢
 cases e : headB (r.drop (passN qF false r)) 34
 ·simp only [e, cond_false]
  have := passN_line r (passN qF false r) (Nat.le_refl _)
  rw [this, Prod.mk.injEq]
  exact ⟨rfl, by omega⟩
 ·rw [e] at h; exact absurd rfl h
set_option maxHeartbeats 4000000 in
theorem dnext_note (s : ByteArray) (hs : s.size ≤ 1000000) (a : Nat) (ha : a < s.size) (h1 : ((s[a].toNat : Int) == 40) = true) (h2 : a + 1 < s.size) (h3 : ((s[a + 1].toNat : Int) == 42) = true) (w : World) :
  Calls Tryz.prog 40 #[.string s, .int .i64 a] w fun e w' => e = .returned (tokV a (tokN (s.data.toList.drop a))) ∧ Below w.heap.size w w' := by
 have hb1 : blankB s[a] = false := by unfold blankB eqB; rw [beq_iff_eq.1 h1]; rfl
 have hd : s.data.toList.drop a = 40 :: 42 :: s.data.toList.drop (a + 2) := by
  rw [drop_two s a h2]
  have e1 : s[a] = 40 := eqB_eq (n := 40) h1
  have e2 : s[a + 1] = 42 := eqB_eq (n := 42) h3
  rw [e1, e2]
 have hT : tokN (s.data.toList.drop a) = noteN (s.data.toList.drop a) := by rw [hd]; rfl
 have hN : dnR s 0 a = bif (noteN (s.data.toList.drop a)).1 == 2 then ((a + (noteN (s.data.toList.drop a)).2 : Nat) : Int) else 0 := by
  unfold dnR
  rw [hd, dn_note]
  cases (noteN (40 :: 42 :: s.data.toList.drop (a + 2))).1 == 2 <;> rfl
 have hk := note_kind (s.data.toList.drop a)
 have hlen : (s.data.toList.drop a).length = s.size - a := by rw [List.length_drop, data_len]
 have hbo := noteN_bound (s.data.toList.drop a) (by omega)
 rw [hlen] at hk hbo
 have HB := fun W => dblank_any s[a] W
 rw [hb1] at HB
 have HD := fun W => dnote_any s hs a ha W
 have h2' : (a : Int) + 1 < (s.size : Int) := by omega
 obtain ⟨j, hj⟩ : ∃ j : Nat, (a : Int) + 1 = (j : Int) := ⟨a + 1, by omega⟩
 have hjk : j = a + 1 := by omega
 have hjlt : j < s.size := by omega
 have h3' : ((s[j].toNat : Int) == 42) = true := by
  have : ∀ h, s[a + 1]'h = s[j] := fun h => by simp [hjk]
  rw [← this]; exact h3
 generalize noteN (s.data.toList.drop a) = q at *
 obtain ⟨k, m⟩ := q
 simp only at hN hk hbo
 have HT := Lib.hid hT
 have HK := Lib.hid hk
 have HHB := Lib.hid hbo
 clear hd hT hb1 hjk h3 hk hlen h2
 by_cases hk2 : k = 2
 ·have hR : dnR s 0 a = ((a + m : Nat) : Int) := by rw [hN, hk2]; rfl
  obtain ⟨E, hE⟩ : ∃ E, E = a + m := ⟨_, rfl⟩
  rw [hR, ← hE] at HD
  have hE0 : (0 : Int) < (E : Int) := by omega
  have HE := Lib.hid hE
  have HK2 := Lib.hid hk2
  clear hN hR hk2 hE hbo
  go_enter Tryz.func40, Tryz.ntmps40
  go_wp2_with fail
  refine (HB _).mono ?_
  rintro e w1 ⟨rfl, rfl⟩
  go_wp2_with fail
  refine (HD _).mono ?_
  rintro e w1 ⟨rfl, rfl⟩
  go_wp2_with fail
  go_returns
  exact ⟨tok_ret (E := E) (by rw [HT.out, HK2.out, HE.out]; simp) (by rw [HE.out]; omega), by go_grown⟩
 ·have hR : dnR s 0 a = 0 := by
   rw [hN]
   have : (k == 2) = false := by simpa using hk2
   rw [this]; rfl
  rw [hR] at HD
  have HK3 := Lib.hid (show k = 3 ∧ m = s.size - a by
   have h3 : k = 3 := HK.out.1.resolve_left hk2
   exact ⟨h3, HK.out.2 h3⟩)
  clear hN hR hk2 hbo
  go_enter Tryz.func40, Tryz.ntmps40
  go_wp2_with fail
  refine (HB _).mono ?_
  rintro e w1 ⟨rfl, rfl⟩
  go_wp2_with fail
  refine (HD _).mono ?_
  rintro e w1 ⟨rfl, rfl⟩
  go_wp2_with fail
  go_returns
  exact ⟨tok_ret (E := s.size) (by rw [HT.out, HK3.out.1, HK3.out.2]) (by omega), by go_grown⟩
set_option maxHeartbeats 4000000 in
theorem dnext_text (s : ByteArray) (hs : s.size ≤ 1000000) (a : Nat) (ha : a < s.size) (h1 : ((s[a].toNat : Int) == 34) = true) (w : World) :
  Calls Tryz.prog 40 #[.string s, .int .i64 a] w fun e w' => e = .returned (tokV a (tokN (s.data.toList.drop a))) ∧ Below w.heap.size w w' := by
 have hb1 : blankB s[a] = false := by unfold blankB eqB; rw [beq_iff_eq.1 h1]; rfl
 have h40 : ((s[a].toNat : Int) == 40) = false := by rw [beq_iff_eq.1 h1]; rfl
 have hd : s.data.toList.drop a = 34 :: s.data.toList.drop (a + 1) := by
  rw [drop_at s a ha]
  have e1 : s[a] = 34 := eqB_eq (n := 34) h1
  rw [e1]
 have hT : tokN (s.data.toList.drop a) = quoteN (s.data.toList.drop (a + 1)) := by rw [hd]; rfl
 have hN : dtR s (a + 1) = bif (quoteN (s.data.toList.drop (a + 1))).1 == 5 then ((a + (quoteN (s.data.toList.drop (a + 1))).2 : Nat) : Int) else 0 := by
  unfold dtR
  rw [dt_pass _ _ (Nat.le_refl _)]
  unfold quoteN
  simp only
  cases headB ((s.data.toList.drop (a + 1)).drop (passN qF false (s.data.toList.drop (a + 1)))) 34
  ·rfl
  ·show ((a + 1 + (passN qF false (s.data.toList.drop (a + 1)) + 1) : Nat) : Int) = ((a + (passN qF false (s.data.toList.drop (a + 1)) + 2) : Nat) : Int)
   omega
 have hbo := quoteN_bound (s.data.toList.drop (a + 1))
 have HB := fun W => dblank_any s[a] W
 rw [hb1] at HB
 have HD := fun W => dtext_any s hs a ha W
 have HT := Lib.hid hT
 by_cases hk2 : (quoteN (s.data.toList.drop (a + 1))).1 = 5
 ·obtain ⟨m, hm⟩ : ∃ m, m = (quoteN (s.data.toList.drop (a + 1))).2 := ⟨_, rfl⟩
  have HQ : Hid (quoteN (s.data.toList.drop (a + 1)) = (5, m)) := Lib.hid (by rw [hm, ← hk2])
  have hR : dtR s (a + 1) = ((a + m : Nat) : Int) := by rw [hN, hk2, hm]; rfl
  obtain ⟨E, hE⟩ : ∃ E, E = a + m := ⟨_, rfl⟩
  rw [hR, ← hE] at HD
  rw [← hm] at hbo
  have hE0 : (0 : Int) < (E : Int) := by omega
  have HE := Lib.hid hE
  clear hN hR hk2 hE hbo hm hd hT hb1
  go_enter Tryz.func40, Tryz.ntmps40
  go_wp2_with fail
  refine (HB _).mono ?_
  rintro e w1 ⟨rfl, rfl⟩
  go_wp2_with fail
  refine (HD _).mono ?_
  rintro e w1 ⟨rfl, rfl⟩
  go_wp2_with fail
  go_returns
  exact ⟨tok_ret (E := E) (by rw [HT.out, HQ.out, HE.out]; simp) (by rw [HE.out]; omega), by go_grown⟩
 ·have hR : dtR s (a + 1) = 0 := by
   rw [hN]
   have : ((quoteN (s.data.toList.drop (a + 1))).1 == 5) = false := by simpa using hk2
   rw [this]; rfl
  rw [hR] at HD
  obtain ⟨T, hTT⟩ : ∃ T : Nat, T = a + 1 + passN (pureF lineB) () (s.data.toList.drop (a + 1)) := ⟨_, rfl⟩
  have HT2 : Hid (tokN (s.data.toList.drop a) = (3, T - a)) := Lib.hid (by rw [hT, quote_bad _ hk2, hTT, Prod.mk.injEq]; exact ⟨rfl, by omega⟩)
  have H0 := Lib.hid hTT
  clear hN hR hk2 hbo hd hT hb1 hTT HT
  go_enter Tryz.func40, Tryz.ntmps40
  go_wp2_with fail
  refine (HB _).mono ?_
  rintro e w1 ⟨rfl, rfl⟩
  go_wp2_with fail
  refine (HD _).mono ?_
  rintro e w1 ⟨rfl, rfl⟩
  go_wp2_with fail
  clear HB HD h1 h40
  have HN := Lib.hid (nx_new w 3 a (a + 1))
  rw [show ((a + 1 : Nat) : Int) = (a : Int) + 1 by omega] at HN
  generalize ((w.alloc (.cells #[.int .i64 0, .int .i64 0, .int .i64 0] 39)).alloc (.cells #[.int .i64 3, .int .i64 (a : Int), .int .i64 ((a : Int) + 1)] 39)) = W0 at *
  go_loopg [] (s.size + 1) (fun gk wr => ∃ E : Nat, E + gk = s.size + 1 + (a + 1) ∧ a < E ∧ E ≤ s.size ∧ Hid (T = E + passN (pureF lineB) () (s.data.toList.drop E)) ∧ Hid (Nx w 3 a E wr))
  case atStart => exact ⟨a + 1, by omega, by omega, by omega, H0, HN⟩
  case round =>
   obtain ⟨E, hg, haE, hE, hq, hn⟩ := hrel
   have c0 := hn.out.own.c0
   have c1 := hn.out.own.c1
   have c2 := hn.out.own.c2
   have f0 := hn.out.own.f 0
   have f2 := hn.out.own.f 2
   have r0 := hn.out.res.c0
   have r1 := hn.out.res.c1
   have r2 := hn.out.res.c2
   have g0 := hn.out.res.f 0
   have g1 := hn.out.res.f 1
   have g2 := hn.out.res.f 2
   clear H0 HN
   by_cases hlt : E < s.size
   ·cases h1 : ((s[E].toNat : Int) == 10)
    ·have hl : lineB s[E] = true := by unfold lineB eqB; rw [h1]; rfl
     have hne : ((s[E].toNat : Int) != 10) = true := by simp [bne, h1]
     have HE := Lib.hid (hq.out.trans (show E + _ = E + 1 + passN (pureF lineB) () (s.data.toList.drop (E + 1)) by rw [pass_at' lineB s E hlt hl]; omega))
     have HX := Lib.hid (hn.out.setE (E + 1))
     have HI := Lib.hid (show ((E : Int) + 1) = ((E + 1 : Nat) : Int) by omega)
     clear hq hl
     go_wp2_with fail
     go_roundg (gk - 1)
     case rel => exact ⟨E + 1, by omega, by omega, by omega, HE, by rw [HI.out]; exact HX⟩
     case measure => omega
    ·have hl : lineB s[E] = false := by unfold lineB eqB; rw [h1]; rfl
     have hne : ((s[E].toNat : Int) != 10) = false := by simp [bne, h1]
     have HE := Lib.hid (hq.out.trans (by rw [pass_no' lineB s E hlt hl]))
     clear hq hl
     go_wp2_with fail
     have HR2 := hn.out.res.set 3 (a : Int) (E : Int)
     have HB2 := Lib.hid (((hn.out.below.setCell (p := ⟨w.heap.size, 0, none⟩) (Nat.le_refl _) (.int .i64 3)).setCell (p := ⟨w.heap.size, 1, none⟩) (Nat.le_refl _) (.int .i64 (a : Int))).setCell (p := ⟨w.heap.size, 2, none⟩) (Nat.le_refl _) (.int .i64 (E : Int)))
     clear c0 c1 c2 f0 f2 r0 r1 r2 g0 g1 g2 hn
     generalize (((wr.setCell ⟨w.heap.size, 0, none⟩ (.int .i64 3)).setCell ⟨w.heap.size, 1, none⟩ (.int .i64 (a : Int))).setCell ⟨w.heap.size, 2, none⟩ (.int .i64 (E : Int))) = W2 at *
     have c0 := HR2.c0
     have c1 := HR2.c1
     have c2 := HR2.c2
     try simp only [Exit.inBlock, Exit.then]
     refine bodyPost_ret (by simp [results, Tryz.results40, go_sem, c0, c1, c2, Result.andThen]; try rfl) rfl ?_
     exact ⟨tok_ret (E := E) (by rw [HT2.out, HE.out]; rfl) (by omega), HB2.out⟩
   ·have HE := Lib.hid (hq.out.trans (by rw [pass_end' lineB s E (by omega)]))
    have hge : ¬ (E : Int) < (s.size : Int) := by omega
    clear hq
    go_wp2_with fail
    have HR2 := hn.out.res.set 3 (a : Int) (E : Int)
    have HB2 := Lib.hid (((hn.out.below.setCell (p := ⟨w.heap.size, 0, none⟩) (Nat.le_refl _) (.int .i64 3)).setCell (p := ⟨w.heap.size, 1, none⟩) (Nat.le_refl _) (.int .i64 (a : Int))).setCell (p := ⟨w.heap.size, 2, none⟩) (Nat.le_refl _) (.int .i64 (E : Int)))
    clear c0 c1 c2 f0 f2 r0 r1 r2 g0 g1 g2 hn
    generalize (((wr.setCell ⟨w.heap.size, 0, none⟩ (.int .i64 3)).setCell ⟨w.heap.size, 1, none⟩ (.int .i64 (a : Int))).setCell ⟨w.heap.size, 2, none⟩ (.int .i64 (E : Int))) = W2 at *
    have c0 := HR2.c0
    have c1 := HR2.c1
    have c2 := HR2.c2
    try simp only [Exit.inBlock, Exit.then]
    refine bodyPost_ret (by simp [results, Tryz.results40, go_sem, c0, c1, c2, Result.andThen]; try rfl) rfl ?_
    exact ⟨tok_ret (E := E) (by rw [HT2.out, HE.out]; rfl) (by omega), HB2.out⟩
theorem rest_not {c : UInt8} (h : restB c = true) : blankB c = false ∧ ((c.toNat : Int) == 34) = false ∧ ((c.toNat : Int) == 40) = false := by
 unfold restB lowB capB digB at h
 unfold blankB eqB
 simp at h ⊢
 omega
theorem sign_not {c : UInt8} (h : signB c = true) : blankB c = false ∧ ((c.toNat : Int) == 34) = false ∧ ((c.toNat : Int) == 40) = false ∧ restB c = false := by
 have hm : c ∈ signL := by unfold signB at h; simpa using h
 have key : ∀ c ∈ signL, blankB c = false ∧ ((c.toNat : Int) == 34) = false ∧ ((c.toNat : Int) == 40) = false ∧ restB c = false := by decide
 exact key c hm
theorem tok_rest (s : ByteArray) (a : Nat) (ha : a < s.size) (h : restB s[a] = true) : tokN (s.data.toList.drop a) = (kdN s a (a + passN (pureF restB) () (s.data.toList.drop a)), passN (pureF restB) () (s.data.toList.drop a)) := by
 obtain ⟨h1, h2, h3⟩ := rest_not h
 have hl := passN_le (pureF restB) () (s.data.toList.drop a)
 rw [List.length_drop, data_len] at hl
 have hp := pass_at' restB s a ha h
 rw [tokN_at s a ha, prefix_at s a ha, h1, h2, show eqB s[a] 40 = false from h3, h, ← kdN_plain s a _ (by omega) (by omega)]
 rfl
theorem tok_sign (s : ByteArray) (a : Nat) (ha : a < s.size) (h : signB s[a] = true) : tokN (s.data.toList.drop a) = (kdN s a (a + passN (pureF signB) () (s.data.toList.drop a)), passN (pureF signB) () (s.data.toList.drop a)) := by
 obtain ⟨h1, h2, h3, h4⟩ := sign_not h
 have hl := passN_le (pureF signB) () (s.data.toList.drop a)
 rw [List.length_drop, data_len] at hl
 have hp := pass_at' signB s a ha h
 rw [tokN_at s a ha, prefix_at s a ha, h1, h2, show eqB s[a] 40 = false from h3, h4, h, ← kdN_plain s a _ (by omega) (by omega)]
 rfl
theorem tok_else (s : ByteArray) (a : Nat) (ha : a < s.size) (h1 : blankB s[a] = false) (h2 : ((s[a].toNat : Int) == 34) = false) (h3 : (eqB s[a] 40 && headB (s.data.toList.drop (a + 1)) 42) = false) (h4 : restB s[a] = false) (h5 : signB s[a] = false) : tokN (s.data.toList.drop a) = (kdN s a (a + 1), 1) := by
 rw [tokN_at s a ha, prefix_at s a ha, h1, h2, h3, h4, h5, ← kdN_plain s a 1 (by omega) (by omega)]
 rfl
theorem dgB_no (s : ByteArray) (a E : Nat) (ha : a < E) (hE : E ≤ s.size) (h : digB (s[a]'(by omega)) = false) : dgB s a E = false := by
 unfold dgB
 rw [drop_at s a (by omega), show E - a = (E - a - 1) + 1 by omega]
 simp [h]
theorem slice_to (s : ByteArray) (a E : Nat) (h1 : a ≤ E) (h2 : E ≤ s.size) (w : World) : Sem.run Tryz.prog (Instr.slice 9 (.string s) (some (.int .i64 a)) (some (.int .i64 E)) none) w = .ok (.string (s.extract a E)) w := by
 have := slice_at s a (E - a) (by omega) w
 rw [show (a : Int) + ((E - a : Nat) : Int) = (E : Int) by omega, show a + (E - a) = E by omega] at this
 exact this
theorem kdN_zero {s : ByteArray} {a E : Nat} (hd : dgB s a E = false) (hk : kindN (s.extract a E) = 0) : kdN s a E = 3 := by unfold kdN; rw [hd, hk]; rfl
theorem kdN_some {s : ByteArray} {a E : Nat} (hd : dgB s a E = false) (hk : kindN (s.extract a E) ≠ 0) : kdN s a E = kindN (s.extract a E) := by
 unfold kdN; rw [hd, show (kindN (s.extract a E) == 0) = false by simpa using hk]; rfl
theorem kdN_dig {s : ByteArray} {a E : Nat} (hd : dgB s a E = true) : kdN s a E = 4 := by unfold kdN; rw [hd]; rfl
set_option maxHeartbeats 4000000 in
theorem dnext_sign (s : ByteArray) (hs : s.size ≤ 1000000) (a : Nat) (ha : a < s.size) (h1 : signB s[a] = true) (w : World) :
  Calls Tryz.prog 40 #[.string s, .int .i64 a] w fun e w' => e = .returned (tokV a (tokN (s.data.toList.drop a))) ∧ Below w.heap.size w w' := by
 obtain ⟨q1, q2, q3, q4⟩ := sign_not h1
 have hd0 : digB s[a] = false := by
  unfold restB at q4
  simp only [Bool.or_eq_false_iff] at q4
  exact q4.1.1.2
 obtain ⟨T, hTT⟩ : ∃ T : Nat, T = a + passN (pureF signB) () (s.data.toList.drop a) := ⟨_, rfl⟩
 have hT2 : tokN (s.data.toList.drop a) = (kdN s a T, T - a) := by rw [tok_sign s a ha h1, ← hTT, Prod.mk.injEq]; exact ⟨rfl, by omega⟩
 have H0 := Lib.hid (show T = a + 1 + passN (pureF signB) () (s.data.toList.drop (a + 1)) by rw [hTT, pass_at' signB s a ha h1]; omega)
 have HT := Lib.hid hT2
 have HB := fun W => dblank_any s[a] W
 rw [q1] at HB
 have HR := fun W => refRest_any s[a] W
 rw [q4] at HR
 have HS := fun W => signs_any s[a] W
 rw [h1] at HS
 have HDG := Lib.hid (fun E (h : a < E) (h2 : E ≤ s.size) => dgB_no s a E h h2 hd0)
 clear h1 hTT hT2 q1 q4 hd0
 go_enter Tryz.func40, Tryz.ntmps40
 go_wp2_with fail
 refine (HB _).mono ?_
 rintro e w1 ⟨rfl, rfl⟩
 go_wp2_with fail
 refine (HR _).mono ?_
 rintro e w1 ⟨rfl, rfl⟩
 go_wp2_with fail
 refine (HS _).mono ?_
 rintro e w1 ⟨rfl, rfl⟩
 go_wp2_with fail
 have HN := Lib.hid (nx_new w 3 a (a + 1))
 rw [show ((a + 1 : Nat) : Int) = (a : Int) + 1 by omega] at HN
 generalize ((w.alloc (.cells #[.int .i64 0, .int .i64 0, .int .i64 0] 39)).alloc (.cells #[.int .i64 3, .int .i64 (a : Int), .int .i64 ((a : Int) + 1)] 39)) = W0 at *
 clear HB HR HS
 go_loopg [] (s.size + 1) (fun gk wr => ∃ E : Nat, E + gk = s.size + 1 + (a + 1) ∧ a < E ∧ E ≤ s.size ∧ Hid (T = E + passN (pureF signB) () (s.data.toList.drop E)) ∧ Hid (Nx w 3 a E wr))
 case atStart => exact ⟨a + 1, by omega, by omega, by omega, H0, HN⟩
 case round =>
  obtain ⟨E, hg, haE, hE, hq, hn⟩ := hrel
  have c0 := hn.out.own.c0
  have c1 := hn.out.own.c1
  have c2 := hn.out.own.c2
  have f0 := hn.out.own.f 0
  have f2 := hn.out.own.f 2
  have r0 := hn.out.res.c0
  have r1 := hn.out.res.c1
  have r2 := hn.out.res.c2
  have g0 := hn.out.res.f 0
  have g1 := hn.out.res.f 1
  have g2 := hn.out.res.f 2
  clear H0 HN
  by_cases hlt : E < s.size
  ·have HC := fun W => signs_any s[E] W
   cases h1 : signB s[E]
   ·rw [h1] at HC
    have HE := Lib.hid (hq.out.trans (by rw [pass_no' signB s E hlt h1]))
    have HTK : Hid (tokN (s.data.toList.drop a) = (kdN s a E, E - a)) := Lib.hid (by rw [HT.out, HE.out]; rfl)
    clear hq h1
    go_wp2_with fail
    refine (HC _).mono ?_
    rintro e w1 ⟨rfl, rfl⟩
    have hsl := slice_to s a E (by omega) (by omega)
    have HKD := fun W => refKind_any (s.extract a E) W (by simp; omega)
    have HD0 := Lib.hid (HDG.out E haE hE)
    obtain ⟨kk, hkk⟩ : ∃ kk, kk = kindN (s.extract a E) := ⟨_, rfl⟩
    rw [← hkk] at HKD
    have HKK := Lib.hid hkk
    clear hkk
    generalize hex : s.extract a E = ex at *
    have HEX := Lib.hid hex
    clear hex
    go_wp2_with fail
    refine (HKD _).mono ?_
    rintro e w5 ⟨rfl, hb5⟩
    have HN5 := Lib.hid (hn.out.step hb5)
    clear hb5 c0 c1 c2 f0 f2 r0 r1 r2 g0 g1 g2 hn
    have c0 := HN5.out.own.c0
    have c1 := HN5.out.own.c1
    have c2 := HN5.out.own.c2
    have f0 := HN5.out.own.f 0
    have f2 := HN5.out.own.f 2
    have r0 := HN5.out.res.c0
    have r1 := HN5.out.res.c1
    have r2 := HN5.out.res.c2
    have g0 := HN5.out.res.f 0
    have g1 := HN5.out.res.f 1
    have g2 := HN5.out.res.f 2
    by_cases hkz : kk = 0
    ·subst hkz
     go_wp2_with fail
     have HR2 := HN5.out.res.set 3 (a : Int) (E : Int)
     have HB2 := Lib.hid (((HN5.out.below.setCell (p := ⟨w.heap.size, 0, none⟩) (Nat.le_refl _) (.int .i64 3)).setCell (p := ⟨w.heap.size, 1, none⟩) (Nat.le_refl _) (.int .i64 (a : Int))).setCell (p := ⟨w.heap.size, 2, none⟩) (Nat.le_refl _) (.int .i64 (E : Int)))
     clear c0 c1 c2 f0 f2 r0 r1 r2 g0 g1 g2 HN5
     generalize (((w5.setCell ⟨w.heap.size, 0, none⟩ (.int .i64 3)).setCell ⟨w.heap.size, 1, none⟩ (.int .i64 (a : Int))).setCell ⟨w.heap.size, 2, none⟩ (.int .i64 (E : Int))) = W2 at *
     have c0 := HR2.c0
     have c1 := HR2.c1
     have c2 := HR2.c2
     try simp only [Exit.inBlock, Exit.then]
     refine bodyPost_ret (by simp [results, Tryz.results40, go_sem, c0, c1, c2, Result.andThen]; try rfl) rfl ?_
     exact ⟨tok_ret (E := E) (by rw [HTK.out, kdN_zero HD0.out (by rw [HEX.out, ← HKK.out])]) (by omega), HB2.out⟩
    ·have hne : (kk != 0) = true := by simpa using hkz
     have HNK := Lib.hid (HN5.out.setK kk)
     go_wp2_with fail
     generalize w5.setCell ⟨w.heap.size + 1, 0, none⟩ (.int .i64 kk) = w6 at *
     clear c0 c1 c2 f0 f2 r0 r1 r2 g0 g1 g2 HN5
     have c0 := HNK.out.own.c0
     have c1 := HNK.out.own.c1
     have c2 := HNK.out.own.c2
     have f0 := HNK.out.own.f 0
     have f2 := HNK.out.own.f 2
     have r0 := HNK.out.res.c0
     have r1 := HNK.out.res.c1
     have r2 := HNK.out.res.c2
     have g0 := HNK.out.res.f 0
     have g1 := HNK.out.res.f 1
     have g2 := HNK.out.res.f 2
     have HR2 := HNK.out.res.set kk (a : Int) (E : Int)
     have HB2 := Lib.hid (((HNK.out.below.setCell (p := ⟨w.heap.size, 0, none⟩) (Nat.le_refl _) (.int .i64 kk)).setCell (p := ⟨w.heap.size, 1, none⟩) (Nat.le_refl _) (.int .i64 (a : Int))).setCell (p := ⟨w.heap.size, 2, none⟩) (Nat.le_refl _) (.int .i64 (E : Int)))
     clear c0 c1 c2 f0 f2 r0 r1 r2 g0 g1 g2 HNK
     generalize (((w6.setCell ⟨w.heap.size, 0, none⟩ (.int .i64 kk)).setCell ⟨w.heap.size, 1, none⟩ (.int .i64 (a : Int))).setCell ⟨w.heap.size, 2, none⟩ (.int .i64 (E : Int))) = W2 at *
     have c0 := HR2.c0
     have c1 := HR2.c1
     have c2 := HR2.c2
     try simp only [Exit.inBlock, Exit.then]
     refine bodyPost_ret (by simp [results, Tryz.results40, go_sem, c0, c1, c2, Result.andThen]; try rfl) rfl ?_
     exact ⟨tok_ret (E := E) (by rw [HTK.out, kdN_some HD0.out (by rw [HEX.out, ← HKK.out]; exact hkz), HEX.out, ← HKK.out]) (by omega), HB2.out⟩
   ·rw [h1] at HC
    have HE := Lib.hid (hq.out.trans (show E + _ = E + 1 + passN (pureF signB) () (s.data.toList.drop (E + 1)) by rw [pass_at' signB s E hlt h1]; omega))
    have HX := Lib.hid (hn.out.setE (E + 1))
    have HI := Lib.hid (show ((E : Int) + 1) = ((E + 1 : Nat) : Int) by omega)
    clear hq h1
    go_wp2_with fail
    refine (HC _).mono ?_
    rintro e w1 ⟨rfl, rfl⟩
    go_wp2_with fail
    go_roundg (gk - 1)
    case rel => exact ⟨E + 1, by omega, by omega, by omega, HE, by rw [HI.out]; exact HX⟩
    case measure => omega
  ·have HE := Lib.hid (hq.out.trans (by rw [pass_end' signB s E (by omega)]))
   have hge : ¬ (E : Int) < (s.size : Int) := by omega
   have HTK : Hid (tokN (s.data.toList.drop a) = (kdN s a E, E - a)) := Lib.hid (by rw [HT.out, HE.out]; rfl)
   clear hq
   have hsl := slice_to s a E (by omega) (by omega)
   have HKD := fun W => refKind_any (s.extract a E) W (by simp; omega)
   have HD0 := Lib.hid (HDG.out E haE hE)
   obtain ⟨kk, hkk⟩ : ∃ kk, kk = kindN (s.extract a E) := ⟨_, rfl⟩
   rw [← hkk] at HKD
   have HKK := Lib.hid hkk
   clear hkk
   generalize hex : s.extract a E = ex at *
   have HEX := Lib.hid hex
   clear hex
   go_wp2_with fail
   refine (HKD _).mono ?_
   rintro e w5 ⟨rfl, hb5⟩
   have HN5 := Lib.hid (hn.out.step hb5)
   clear hb5 c0 c1 c2 f0 f2 r0 r1 r2 g0 g1 g2 hn
   have c0 := HN5.out.own.c0
   have c1 := HN5.out.own.c1
   have c2 := HN5.out.own.c2
   have f0 := HN5.out.own.f 0
   have f2 := HN5.out.own.f 2
   have r0 := HN5.out.res.c0
   have r1 := HN5.out.res.c1
   have r2 := HN5.out.res.c2
   have g0 := HN5.out.res.f 0
   have g1 := HN5.out.res.f 1
   have g2 := HN5.out.res.f 2
   by_cases hkz : kk = 0
   ·subst hkz
    go_wp2_with fail
    have HR2 := HN5.out.res.set 3 (a : Int) (E : Int)
    have HB2 := Lib.hid (((HN5.out.below.setCell (p := ⟨w.heap.size, 0, none⟩) (Nat.le_refl _) (.int .i64 3)).setCell (p := ⟨w.heap.size, 1, none⟩) (Nat.le_refl _) (.int .i64 (a : Int))).setCell (p := ⟨w.heap.size, 2, none⟩) (Nat.le_refl _) (.int .i64 (E : Int)))
    clear c0 c1 c2 f0 f2 r0 r1 r2 g0 g1 g2 HN5
    generalize (((w5.setCell ⟨w.heap.size, 0, none⟩ (.int .i64 3)).setCell ⟨w.heap.size, 1, none⟩ (.int .i64 (a : Int))).setCell ⟨w.heap.size, 2, none⟩ (.int .i64 (E : Int))) = W2 at *
    have c0 := HR2.c0
    have c1 := HR2.c1
    have c2 := HR2.c2
    try simp only [Exit.inBlock, Exit.then]
    refine bodyPost_ret (by simp [results, Tryz.results40, go_sem, c0, c1, c2, Result.andThen]; try rfl) rfl ?_
    exact ⟨tok_ret (E := E) (by rw [HTK.out, kdN_zero HD0.out (by rw [HEX.out, ← HKK.out])]) (by omega), HB2.out⟩
   ·have hne : (kk != 0) = true := by simpa using hkz
    have HNK := Lib.hid (HN5.out.setK kk)
    go_wp2_with fail
    generalize w5.setCell ⟨w.heap.size + 1, 0, none⟩ (.int .i64 kk) = w6 at *
    clear c0 c1 c2 f0 f2 r0 r1 r2 g0 g1 g2 HN5
    have c0 := HNK.out.own.c0
    have c1 := HNK.out.own.c1
    have c2 := HNK.out.own.c2
    have f0 := HNK.out.own.f 0
    have f2 := HNK.out.own.f 2
    have r0 := HNK.out.res.c0
    have r1 := HNK.out.res.c1
    have r2 := HNK.out.res.c2
    have g0 := HNK.out.res.f 0
    have g1 := HNK.out.res.f 1
    have g2 := HNK.out.res.f 2
    have HR2 := HNK.out.res.set kk (a : Int) (E : Int)
    have HB2 := Lib.hid (((HNK.out.below.setCell (p := ⟨w.heap.size, 0, none⟩) (Nat.le_refl _) (.int .i64 kk)).setCell (p := ⟨w.heap.size, 1, none⟩) (Nat.le_refl _) (.int .i64 (a : Int))).setCell (p := ⟨w.heap.size, 2, none⟩) (Nat.le_refl _) (.int .i64 (E : Int)))
    clear c0 c1 c2 f0 f2 r0 r1 r2 g0 g1 g2 HNK
    generalize (((w6.setCell ⟨w.heap.size, 0, none⟩ (.int .i64 kk)).setCell ⟨w.heap.size, 1, none⟩ (.int .i64 (a : Int))).setCell ⟨w.heap.size, 2, none⟩ (.int .i64 (E : Int))) = W2 at *
    have c0 := HR2.c0
    have c1 := HR2.c1
    have c2 := HR2.c2
    try simp only [Exit.inBlock, Exit.then]
    refine bodyPost_ret (by simp [results, Tryz.results40, go_sem, c0, c1, c2, Result.andThen]; try rfl) rfl ?_
    exact ⟨tok_ret (E := E) (by rw [HTK.out, kdN_some HD0.out (by rw [HEX.out, ← HKK.out]; exact hkz), HEX.out, ← HKK.out]) (by omega), HB2.out⟩
set_option maxHeartbeats 4000000 in
theorem dnext_rest (s : ByteArray) (hs : s.size ≤ 1000000) (a : Nat) (ha : a < s.size) (h1 : restB s[a] = true) (w : World) :
  Calls Tryz.prog 40 #[.string s, .int .i64 a] w fun e w' => e = .returned (tokV a (tokN (s.data.toList.drop a))) ∧ Below w.heap.size w w' := by
 obtain ⟨q1, q2, q3⟩ := rest_not h1
 obtain ⟨T, hTT⟩ : ∃ T : Nat, T = a + passN (pureF restB) () (s.data.toList.drop a) := ⟨_, rfl⟩
 have hT2 : tokN (s.data.toList.drop a) = (kdN s a T, T - a) := by rw [tok_rest s a ha h1, ← hTT, Prod.mk.injEq]; exact ⟨rfl, by omega⟩
 have H0 := Lib.hid (show T = a + 1 + passN (pureF restB) () (s.data.toList.drop (a + 1)) by rw [hTT, pass_at' restB s a ha h1]; omega)
 have HT := Lib.hid hT2
 have HB := fun W => dblank_any s[a] W
 rw [q1] at HB
 have HR := fun W => refRest_any s[a] W
 rw [h1] at HR
 have HD := fun W => ddigit_any s[a] W
 rw [← dgB_one s a ha] at HD
 clear h1 hTT hT2 q1
 go_enter Tryz.func40, Tryz.ntmps40
 go_wp2_with fail
 refine (HB _).mono ?_
 rintro e w1 ⟨rfl, rfl⟩
 go_wp2_with fail
 refine (HR _).mono ?_
 rintro e w1 ⟨rfl, rfl⟩
 go_wp2_with fail
 refine (HD _).mono ?_
 rintro e w1 ⟨rfl, rfl⟩
 go_wp2_with fail
 have HN := Lib.hid (nx_new w 3 a (a + 1))
 rw [show ((a + 1 : Nat) : Int) = (a : Int) + 1 by omega] at HN
 generalize ((w.alloc (.cells #[.int .i64 0, .int .i64 0, .int .i64 0] 39)).alloc (.cells #[.int .i64 3, .int .i64 (a : Int), .int .i64 ((a : Int) + 1)] 39)) = W0 at *
 clear HB HR HD
 go_loopg [9] (s.size + 1) (fun gk v9 wr => ∃ E : Nat, E + gk = s.size + 1 + (a + 1) ∧ a < E ∧ E ≤ s.size ∧ v9 = .bool (dgB s a E) ∧ Hid (T = E + passN (pureF restB) () (s.data.toList.drop E)) ∧ Hid (Nx w 3 a E wr))
 case atStart => exact ⟨a + 1, by omega, by omega, by omega, rfl, H0, HN⟩
 case round =>
  obtain ⟨E, hg, haE, hE, rfl, hq, hn⟩ := hrel
  have c0 := hn.out.own.c0
  have c1 := hn.out.own.c1
  have c2 := hn.out.own.c2
  have f0 := hn.out.own.f 0
  have f2 := hn.out.own.f 2
  have r0 := hn.out.res.c0
  have r1 := hn.out.res.c1
  have r2 := hn.out.res.c2
  have g0 := hn.out.res.f 0
  have g1 := hn.out.res.f 1
  have g2 := hn.out.res.f 2
  clear H0 HN
  by_cases hlt : E < s.size
  ·have HC := fun W => refRest_any s[E] W
   have HM := dgB_more s a E hlt (by omega)
   cases h1 : restB s[E]
   ·rw [h1] at HC
    have HE := Lib.hid (hq.out.trans (by rw [pass_no' restB s E hlt h1]))
    have HTK : Hid (tokN (s.data.toList.drop a) = (kdN s a E, E - a)) := Lib.hid (by rw [HT.out, HE.out]; rfl)
    clear hq h1 HM
    cases hbb : dgB s a E
    ·have HBB := Lib.hid hbb
     clear hbb
     go_wp2_with fail
     refine (HC _).mono ?_
     rintro e w1 ⟨rfl, rfl⟩
     have hsl := slice_to s a E (by omega) (by omega)
     have HKD := fun W => refKind_any (s.extract a E) W (by simp; omega)
     have HD0 := HBB
     obtain ⟨kk, hkk⟩ : ∃ kk, kk = kindN (s.extract a E) := ⟨_, rfl⟩
     rw [← hkk] at HKD
     have HKK := Lib.hid hkk
     clear hkk
     generalize hex : s.extract a E = ex at *
     have HEX := Lib.hid hex
     clear hex
     go_wp2_with fail
     refine (HKD _).mono ?_
     rintro e w5 ⟨rfl, hb5⟩
     have HN5 := Lib.hid (hn.out.step hb5)
     clear hb5 c0 c1 c2 f0 f2 r0 r1 r2 g0 g1 g2 hn
     have c0 := HN5.out.own.c0
     have c1 := HN5.out.own.c1
     have c2 := HN5.out.own.c2
     have f0 := HN5.out.own.f 0
     have f2 := HN5.out.own.f 2
     have r0 := HN5.out.res.c0
     have r1 := HN5.out.res.c1
     have r2 := HN5.out.res.c2
     have g0 := HN5.out.res.f 0
     have g1 := HN5.out.res.f 1
     have g2 := HN5.out.res.f 2
     by_cases hkz : kk = 0
     ·subst hkz
      go_wp2_with fail
      have HR2 := HN5.out.res.set 3 (a : Int) (E : Int)
      have HB2 := Lib.hid (((HN5.out.below.setCell (p := ⟨w.heap.size, 0, none⟩) (Nat.le_refl _) (.int .i64 3)).setCell (p := ⟨w.heap.size, 1, none⟩) (Nat.le_refl _) (.int .i64 (a : Int))).setCell (p := ⟨w.heap.size, 2, none⟩) (Nat.le_refl _) (.int .i64 (E : Int)))
      clear c0 c1 c2 f0 f2 r0 r1 r2 g0 g1 g2 HN5
      generalize (((w5.setCell ⟨w.heap.size, 0, none⟩ (.int .i64 3)).setCell ⟨w.heap.size, 1, none⟩ (.int .i64 (a : Int))).setCell ⟨w.heap.size, 2, none⟩ (.int .i64 (E : Int))) = W2 at *
      have c0 := HR2.c0
      have c1 := HR2.c1
      have c2 := HR2.c2
      try simp only [Exit.inBlock, Exit.then]
      refine bodyPost_ret (by simp [results, Tryz.results40, go_sem, c0, c1, c2, Result.andThen]; try rfl) rfl ?_
      exact ⟨tok_ret (E := E) (by rw [HTK.out, kdN_zero HD0.out (by rw [HEX.out, ← HKK.out])]) (by omega), HB2.out⟩
     ·have hne : (kk != 0) = true := by simpa using hkz
      have HNK := Lib.hid (HN5.out.setK kk)
      go_wp2_with fail
      generalize w5.setCell ⟨w.heap.size + 1, 0, none⟩ (.int .i64 kk) = w6 at *
      clear c0 c1 c2 f0 f2 r0 r1 r2 g0 g1 g2 HN5
      have c0 := HNK.out.own.c0
      have c1 := HNK.out.own.c1
      have c2 := HNK.out.own.c2
      have f0 := HNK.out.own.f 0
      have f2 := HNK.out.own.f 2
      have r0 := HNK.out.res.c0
      have r1 := HNK.out.res.c1
      have r2 := HNK.out.res.c2
      have g0 := HNK.out.res.f 0
      have g1 := HNK.out.res.f 1
      have g2 := HNK.out.res.f 2
      have HR2 := HNK.out.res.set kk (a : Int) (E : Int)
      have HB2 := Lib.hid (((HNK.out.below.setCell (p := ⟨w.heap.size, 0, none⟩) (Nat.le_refl _) (.int .i64 kk)).setCell (p := ⟨w.heap.size, 1, none⟩) (Nat.le_refl _) (.int .i64 (a : Int))).setCell (p := ⟨w.heap.size, 2, none⟩) (Nat.le_refl _) (.int .i64 (E : Int)))
      clear c0 c1 c2 f0 f2 r0 r1 r2 g0 g1 g2 HNK
      generalize (((w6.setCell ⟨w.heap.size, 0, none⟩ (.int .i64 kk)).setCell ⟨w.heap.size, 1, none⟩ (.int .i64 (a : Int))).setCell ⟨w.heap.size, 2, none⟩ (.int .i64 (E : Int))) = W2 at *
      have c0 := HR2.c0
      have c1 := HR2.c1
      have c2 := HR2.c2
      try simp only [Exit.inBlock, Exit.then]
      refine bodyPost_ret (by simp [results, Tryz.results40, go_sem, c0, c1, c2, Result.andThen]; try rfl) rfl ?_
      exact ⟨tok_ret (E := E) (by rw [HTK.out, kdN_some HD0.out (by rw [HEX.out, ← HKK.out]; exact hkz), HEX.out, ← HKK.out]) (by omega), HB2.out⟩
    ·have HBB := Lib.hid hbb
     clear hbb
     go_wp2_with fail
     refine (HC _).mono ?_
     rintro e w1 ⟨rfl, rfl⟩
     have HNK := Lib.hid (hn.out.setK 4)
     go_wp2_with fail
     generalize wr.setCell ⟨w.heap.size + 1, 0, none⟩ (.int .i64 4) = w6 at *
     clear c0 c1 c2 f0 f2 r0 r1 r2 g0 g1 g2 hn
     have c0 := HNK.out.own.c0
     have c1 := HNK.out.own.c1
     have c2 := HNK.out.own.c2
     have f0 := HNK.out.own.f 0
     have f2 := HNK.out.own.f 2
     have r0 := HNK.out.res.c0
     have r1 := HNK.out.res.c1
     have r2 := HNK.out.res.c2
     have g0 := HNK.out.res.f 0
     have g1 := HNK.out.res.f 1
     have g2 := HNK.out.res.f 2
     have HR2 := HNK.out.res.set 4 (a : Int) (E : Int)
     have HB2 := Lib.hid (((HNK.out.below.setCell (p := ⟨w.heap.size, 0, none⟩) (Nat.le_refl _) (.int .i64 4)).setCell (p := ⟨w.heap.size, 1, none⟩) (Nat.le_refl _) (.int .i64 (a : Int))).setCell (p := ⟨w.heap.size, 2, none⟩) (Nat.le_refl _) (.int .i64 (E : Int)))
     clear c0 c1 c2 f0 f2 r0 r1 r2 g0 g1 g2 HNK
     generalize (((w6.setCell ⟨w.heap.size, 0, none⟩ (.int .i64 4)).setCell ⟨w.heap.size, 1, none⟩ (.int .i64 (a : Int))).setCell ⟨w.heap.size, 2, none⟩ (.int .i64 (E : Int))) = W2 at *
     have c0 := HR2.c0
     have c1 := HR2.c1
     have c2 := HR2.c2
     try simp only [Exit.inBlock, Exit.then]
     refine bodyPost_ret (by simp [results, Tryz.results40, go_sem, c0, c1, c2, Result.andThen]; try rfl) rfl ?_
     exact ⟨tok_ret (E := E) (by rw [HTK.out, kdN_dig HBB.out]) (by omega), HB2.out⟩
   ·rw [h1] at HC
    have HE := Lib.hid (hq.out.trans (show E + _ = E + 1 + passN (pureF restB) () (s.data.toList.drop (E + 1)) by rw [pass_at' restB s E hlt h1]; omega))
    have HX := Lib.hid (hn.out.setE (E + 1))
    have HI := Lib.hid (show ((E : Int) + 1) = ((E + 1 : Nat) : Int) by omega)
    clear hq h1
    cases hbb : dgB s a E
    ·rw [hbb, Bool.false_and] at HM
     have HMM := Lib.hid HM
     clear hbb HM
     go_wp2_with fail
     refine (HC _).mono ?_
     rintro e w1 ⟨rfl, rfl⟩
     go_wp2_with fail
     go_roundg (gk - 1)
     case rel => exact ⟨E + 1, by omega, by omega, by omega, by rw [HMM.out], HE, by rw [HI.out]; exact HX⟩
     case measure => omega
    ·rw [hbb, Bool.true_and] at HM
     have HMM := Lib.hid HM
     have HDE := fun W => ddigit_any s[E] W
     clear hbb HM
     go_wp2_with fail
     refine (HC _).mono ?_
     rintro e w1 ⟨rfl, rfl⟩
     go_wp2_with fail
     refine (HDE _).mono ?_
     rintro e w1 ⟨rfl, rfl⟩
     go_wp2_with fail
     go_roundg (gk - 1)
     case rel => exact ⟨E + 1, by omega, by omega, by omega, by rw [HMM.out], HE, by rw [HI.out]; exact HX⟩
     case measure => omega
  ·have HE := Lib.hid (hq.out.trans (by rw [pass_end' restB s E (by omega)]))
   have hge : ¬ (E : Int) < (s.size : Int) := by omega
   have HTK : Hid (tokN (s.data.toList.drop a) = (kdN s a E, E - a)) := Lib.hid (by rw [HT.out, HE.out]; rfl)
   clear hq
   cases hbb : dgB s a E
   ·have HBB := Lib.hid hbb
    clear hbb
    have hsl := slice_to s a E (by omega) (by omega)
    have HKD := fun W => refKind_any (s.extract a E) W (by simp; omega)
    have HD0 := HBB
    obtain ⟨kk, hkk⟩ : ∃ kk, kk = kindN (s.extract a E) := ⟨_, rfl⟩
    rw [← hkk] at HKD
    have HKK := Lib.hid hkk
    clear hkk
    generalize hex : s.extract a E = ex at *
    have HEX := Lib.hid hex
    clear hex
    go_wp2_with fail
    refine (HKD _).mono ?_
    rintro e w5 ⟨rfl, hb5⟩
    have HN5 := Lib.hid (hn.out.step hb5)
    clear hb5 c0 c1 c2 f0 f2 r0 r1 r2 g0 g1 g2 hn
    have c0 := HN5.out.own.c0
    have c1 := HN5.out.own.c1
    have c2 := HN5.out.own.c2
    have f0 := HN5.out.own.f 0
    have f2 := HN5.out.own.f 2
    have r0 := HN5.out.res.c0
    have r1 := HN5.out.res.c1
    have r2 := HN5.out.res.c2
    have g0 := HN5.out.res.f 0
    have g1 := HN5.out.res.f 1
    have g2 := HN5.out.res.f 2
    by_cases hkz : kk = 0
    ·subst hkz
     go_wp2_with fail
     have HR2 := HN5.out.res.set 3 (a : Int) (E : Int)
     have HB2 := Lib.hid (((HN5.out.below.setCell (p := ⟨w.heap.size, 0, none⟩) (Nat.le_refl _) (.int .i64 3)).setCell (p := ⟨w.heap.size, 1, none⟩) (Nat.le_refl _) (.int .i64 (a : Int))).setCell (p := ⟨w.heap.size, 2, none⟩) (Nat.le_refl _) (.int .i64 (E : Int)))
     clear c0 c1 c2 f0 f2 r0 r1 r2 g0 g1 g2 HN5
     generalize (((w5.setCell ⟨w.heap.size, 0, none⟩ (.int .i64 3)).setCell ⟨w.heap.size, 1, none⟩ (.int .i64 (a : Int))).setCell ⟨w.heap.size, 2, none⟩ (.int .i64 (E : Int))) = W2 at *
     have c0 := HR2.c0
     have c1 := HR2.c1
     have c2 := HR2.c2
     try simp only [Exit.inBlock, Exit.then]
     refine bodyPost_ret (by simp [results, Tryz.results40, go_sem, c0, c1, c2, Result.andThen]; try rfl) rfl ?_
     exact ⟨tok_ret (E := E) (by rw [HTK.out, kdN_zero HD0.out (by rw [HEX.out, ← HKK.out])]) (by omega), HB2.out⟩
    ·have hne : (kk != 0) = true := by simpa using hkz
     have HNK := Lib.hid (HN5.out.setK kk)
     go_wp2_with fail
     generalize w5.setCell ⟨w.heap.size + 1, 0, none⟩ (.int .i64 kk) = w6 at *
     clear c0 c1 c2 f0 f2 r0 r1 r2 g0 g1 g2 HN5
     have c0 := HNK.out.own.c0
     have c1 := HNK.out.own.c1
     have c2 := HNK.out.own.c2
     have f0 := HNK.out.own.f 0
     have f2 := HNK.out.own.f 2
     have r0 := HNK.out.res.c0
     have r1 := HNK.out.res.c1
     have r2 := HNK.out.res.c2
     have g0 := HNK.out.res.f 0
     have g1 := HNK.out.res.f 1
     have g2 := HNK.out.res.f 2
     have HR2 := HNK.out.res.set kk (a : Int) (E : Int)
     have HB2 := Lib.hid (((HNK.out.below.setCell (p := ⟨w.heap.size, 0, none⟩) (Nat.le_refl _) (.int .i64 kk)).setCell (p := ⟨w.heap.size, 1, none⟩) (Nat.le_refl _) (.int .i64 (a : Int))).setCell (p := ⟨w.heap.size, 2, none⟩) (Nat.le_refl _) (.int .i64 (E : Int)))
     clear c0 c1 c2 f0 f2 r0 r1 r2 g0 g1 g2 HNK
     generalize (((w6.setCell ⟨w.heap.size, 0, none⟩ (.int .i64 kk)).setCell ⟨w.heap.size, 1, none⟩ (.int .i64 (a : Int))).setCell ⟨w.heap.size, 2, none⟩ (.int .i64 (E : Int))) = W2 at *
     have c0 := HR2.c0
     have c1 := HR2.c1
     have c2 := HR2.c2
     try simp only [Exit.inBlock, Exit.then]
     refine bodyPost_ret (by simp [results, Tryz.results40, go_sem, c0, c1, c2, Result.andThen]; try rfl) rfl ?_
     exact ⟨tok_ret (E := E) (by rw [HTK.out, kdN_some HD0.out (by rw [HEX.out, ← HKK.out]; exact hkz), HEX.out, ← HKK.out]) (by omega), HB2.out⟩
   ·have HBB := Lib.hid hbb
    clear hbb
    go_wp2_with fail
    have HNK := Lib.hid (hn.out.setK 4)
    go_wp2_with fail
    generalize wr.setCell ⟨w.heap.size + 1, 0, none⟩ (.int .i64 4) = w6 at *
    clear c0 c1 c2 f0 f2 r0 r1 r2 g0 g1 g2 hn
    have c0 := HNK.out.own.c0
    have c1 := HNK.out.own.c1
    have c2 := HNK.out.own.c2
    have f0 := HNK.out.own.f 0
    have f2 := HNK.out.own.f 2
    have r0 := HNK.out.res.c0
    have r1 := HNK.out.res.c1
    have r2 := HNK.out.res.c2
    have g0 := HNK.out.res.f 0
    have g1 := HNK.out.res.f 1
    have g2 := HNK.out.res.f 2
    have HR2 := HNK.out.res.set 4 (a : Int) (E : Int)
    have HB2 := Lib.hid (((HNK.out.below.setCell (p := ⟨w.heap.size, 0, none⟩) (Nat.le_refl _) (.int .i64 4)).setCell (p := ⟨w.heap.size, 1, none⟩) (Nat.le_refl _) (.int .i64 (a : Int))).setCell (p := ⟨w.heap.size, 2, none⟩) (Nat.le_refl _) (.int .i64 (E : Int)))
    clear c0 c1 c2 f0 f2 r0 r1 r2 g0 g1 g2 HNK
    generalize (((w6.setCell ⟨w.heap.size, 0, none⟩ (.int .i64 4)).setCell ⟨w.heap.size, 1, none⟩ (.int .i64 (a : Int))).setCell ⟨w.heap.size, 2, none⟩ (.int .i64 (E : Int))) = W2 at *
    have c0 := HR2.c0
    have c1 := HR2.c1
    have c2 := HR2.c2
    try simp only [Exit.inBlock, Exit.then]
    refine bodyPost_ret (by simp [results, Tryz.results40, go_sem, c0, c1, c2, Result.andThen]; try rfl) rfl ?_
    exact ⟨tok_ret (E := E) (by rw [HTK.out, kdN_dig HBB.out]) (by omega), HB2.out⟩
set_option maxHeartbeats 4000000 in
theorem dnext_else1 (s : ByteArray) (hs : s.size ≤ 1000000) (a : Nat) (ha : a < s.size) (h1 : blankB s[a] = false) (h2 : ((s[a].toNat : Int) == 34) = false) (h4 : restB s[a] = false) (h5 : signB s[a] = false) (h6 : ((s[a].toNat : Int) == 40) = false) (w : World) :
  Calls Tryz.prog 40 #[.string s, .int .i64 a] w fun e w' => e = .returned (tokV a (tokN (s.data.toList.drop a))) ∧ Below w.heap.size w w' := by
 have hd0 : digB s[a] = false := by
  have q4 := h4
  unfold restB at q4
  simp only [Bool.or_eq_false_iff] at q4
  exact q4.1.1.2
 have hT := tok_else s a ha h1 h2 (by rw [show eqB s[a] 40 = false from h6]; rfl) h4 h5
 have HDG := Lib.hid (dgB_no s a (a + 1) (by omega) (by omega) hd0)
 have HB := fun W => dblank_any s[a] W
 rw [h1] at HB
 have HR := fun W => refRest_any s[a] W
 rw [h4] at HR
 have HS := fun W => signs_any s[a] W
 rw [h5] at HS
 have HT := Lib.hid hT
 obtain ⟨E, hE⟩ : ∃ E : Nat, E = a + 1 := ⟨_, rfl⟩
 rw [← hE] at HDG
 have hEs : E ≤ s.size := by omega
 have haE : a < E := by omega
 have HTK : Hid (tokN (s.data.toList.drop a) = (kdN s a E, E - a)) := Lib.hid (by rw [HT.out, hE]; simp)
 have HN := Lib.hid (nx_new w 3 a E)
 have hEi : (a : Int) + 1 = (E : Int) := by omega
 have HEH := Lib.hid hE
 clear h1 h4 h5 hT hd0 hE HT
 have hsl := slice_to s a E (by omega) hEs
 have HKD := fun W => refKind_any (s.extract a E) W (by simp; omega)
 obtain ⟨kk, hkk⟩ : ∃ kk, kk = kindN (s.extract a E) := ⟨_, rfl⟩
 rw [← hkk] at HKD
 have HKK := Lib.hid hkk
 clear hkk
 generalize hex : s.extract a E = ex at *
 have HEX := Lib.hid hex
 clear hex
 go_enter Tryz.func40, Tryz.ntmps40
 go_wp2_with fail
 refine (HB _).mono ?_
 rintro e w1 ⟨rfl, rfl⟩
 go_wp2_with fail
 refine (HR _).mono ?_
 rintro e w1 ⟨rfl, rfl⟩
 go_wp2_with fail
 refine (HS _).mono ?_
 rintro e w1 ⟨rfl, rfl⟩
 go_wp2_with fail
 refine (HKD _).mono ?_
 rintro e w5 ⟨rfl, hb5⟩
 generalize ((w.alloc (.cells #[.int .i64 0, .int .i64 0, .int .i64 0] 39)).alloc (.cells #[.int .i64 3, .int .i64 (a : Int), .int .i64 (E : Int)] 39)) = W0 at *
 have HN5 := Lib.hid (HN.out.step hb5)
 clear hb5 HN
 have c0 := HN5.out.own.c0
 have c1 := HN5.out.own.c1
 have c2 := HN5.out.own.c2
 have f0 := HN5.out.own.f 0
 have f2 := HN5.out.own.f 2
 have r0 := HN5.out.res.c0
 have r1 := HN5.out.res.c1
 have r2 := HN5.out.res.c2
 have g0 := HN5.out.res.f 0
 have g1 := HN5.out.res.f 1
 have g2 := HN5.out.res.f 2
 by_cases hkz : kk = 0
 ·subst hkz
  go_wp2_with fail
  have HR2 := HN5.out.res.set 3 (a : Int) (E : Int)
  have HB2 := Lib.hid (((HN5.out.below.setCell (p := ⟨w.heap.size, 0, none⟩) (Nat.le_refl _) (.int .i64 3)).setCell (p := ⟨w.heap.size, 1, none⟩) (Nat.le_refl _) (.int .i64 (a : Int))).setCell (p := ⟨w.heap.size, 2, none⟩) (Nat.le_refl _) (.int .i64 (E : Int)))
  clear c0 c1 c2 f0 f2 r0 r1 r2 g0 g1 g2 HN5
  generalize (((w5.setCell ⟨w.heap.size, 0, none⟩ (.int .i64 3)).setCell ⟨w.heap.size, 1, none⟩ (.int .i64 (a : Int))).setCell ⟨w.heap.size, 2, none⟩ (.int .i64 (E : Int))) = W2 at *
  have c0 := HR2.c0
  have c1 := HR2.c1
  have c2 := HR2.c2
  try simp only [Exit.inBlock, Exit.then]
  refine bodyPost_ret (by simp [results, Tryz.results40, go_sem, c0, c1, c2, Result.andThen]; try rfl) rfl ?_
  exact ⟨tok_ret (E := E) (by rw [HTK.out, kdN_zero HDG.out (by rw [HEX.out, ← HKK.out])]) (by omega), HB2.out⟩
 ·have hne : (kk != 0) = true := by simpa using hkz
  have HNK := Lib.hid (HN5.out.setK kk)
  go_wp2_with fail
  generalize w5.setCell ⟨w.heap.size + 1, 0, none⟩ (.int .i64 kk) = w6 at *
  clear c0 c1 c2 f0 f2 r0 r1 r2 g0 g1 g2 HN5
  have c0 := HNK.out.own.c0
  have c1 := HNK.out.own.c1
  have c2 := HNK.out.own.c2
  have f0 := HNK.out.own.f 0
  have f2 := HNK.out.own.f 2
  have r0 := HNK.out.res.c0
  have r1 := HNK.out.res.c1
  have r2 := HNK.out.res.c2
  have g0 := HNK.out.res.f 0
  have g1 := HNK.out.res.f 1
  have g2 := HNK.out.res.f 2
  have HR2 := HNK.out.res.set kk (a : Int) (E : Int)
  have HB2 := Lib.hid (((HNK.out.below.setCell (p := ⟨w.heap.size, 0, none⟩) (Nat.le_refl _) (.int .i64 kk)).setCell (p := ⟨w.heap.size, 1, none⟩) (Nat.le_refl _) (.int .i64 (a : Int))).setCell (p := ⟨w.heap.size, 2, none⟩) (Nat.le_refl _) (.int .i64 (E : Int)))
  clear c0 c1 c2 f0 f2 r0 r1 r2 g0 g1 g2 HNK
  generalize (((w6.setCell ⟨w.heap.size, 0, none⟩ (.int .i64 kk)).setCell ⟨w.heap.size, 1, none⟩ (.int .i64 (a : Int))).setCell ⟨w.heap.size, 2, none⟩ (.int .i64 (E : Int))) = W2 at *
  have c0 := HR2.c0
  have c1 := HR2.c1
  have c2 := HR2.c2
  try simp only [Exit.inBlock, Exit.then]
  refine bodyPost_ret (by simp [results, Tryz.results40, go_sem, c0, c1, c2, Result.andThen]; try rfl) rfl ?_
  exact ⟨tok_ret (E := E) (by rw [HTK.out, kdN_some HDG.out (by rw [HEX.out, ← HKK.out]; exact hkz), HEX.out, ← HKK.out]) (by omega), HB2.out⟩
set_option maxHeartbeats 4000000 in
theorem dnext_else2 (s : ByteArray) (hs : s.size ≤ 1000000) (a : Nat) (ha : a < s.size) (h1 : blankB s[a] = false) (h2 : ((s[a].toNat : Int) == 34) = false) (h4 : restB s[a] = false) (h5 : signB s[a] = false) (h6 : ((s[a].toNat : Int) == 40) = true) (h7 : s.size = a + 1) (w : World) :
  Calls Tryz.prog 40 #[.string s, .int .i64 a] w fun e w' => e = .returned (tokV a (tokN (s.data.toList.drop a))) ∧ Below w.heap.size w w' := by
 have hd0 : digB s[a] = false := by
  have q4 := h4
  unfold restB at q4
  simp only [Bool.or_eq_false_iff] at q4
  exact q4.1.1.2
 have hT := tok_else s a ha h1 h2 (by rw [List.drop_eq_nil_of_le (by rw [data_len]; omega)]; simp [headB]) h4 h5
 have h8 : ¬ (a : Int) + 1 < (s.size : Int) := by omega
 have HDG := Lib.hid (dgB_no s a (a + 1) (by omega) (by omega) hd0)
 have HB := fun W => dblank_any s[a] W
 rw [h1] at HB
 have HR := fun W => refRest_any s[a] W
 rw [h4] at HR
 have HS := fun W => signs_any s[a] W
 rw [h5] at HS
 have HT := Lib.hid hT
 obtain ⟨E, hE⟩ : ∃ E : Nat, E = a + 1 := ⟨_, rfl⟩
 rw [← hE] at HDG
 have hEs : E ≤ s.size := by omega
 have haE : a < E := by omega
 have HTK : Hid (tokN (s.data.toList.drop a) = (kdN s a E, E - a)) := Lib.hid (by rw [HT.out, hE]; simp)
 have HN := Lib.hid (nx_new w 3 a E)
 have hEi : (a : Int) + 1 = (E : Int) := by omega
 have HEH := Lib.hid hE
 clear h1 h4 h5 hT hd0 hE HT
 have hsl := slice_to s a E (by omega) hEs
 have HKD := fun W => refKind_any (s.extract a E) W (by simp; omega)
 obtain ⟨kk, hkk⟩ : ∃ kk, kk = kindN (s.extract a E) := ⟨_, rfl⟩
 rw [← hkk] at HKD
 have HKK := Lib.hid hkk
 clear hkk
 generalize hex : s.extract a E = ex at *
 have HEX := Lib.hid hex
 clear hex
 go_enter Tryz.func40, Tryz.ntmps40
 go_wp2_with fail
 refine (HB _).mono ?_
 rintro e w1 ⟨rfl, rfl⟩
 go_wp2_with fail
 refine (HR _).mono ?_
 rintro e w1 ⟨rfl, rfl⟩
 go_wp2_with fail
 refine (HS _).mono ?_
 rintro e w1 ⟨rfl, rfl⟩
 go_wp2_with fail
 refine (HKD _).mono ?_
 rintro e w5 ⟨rfl, hb5⟩
 generalize ((w.alloc (.cells #[.int .i64 0, .int .i64 0, .int .i64 0] 39)).alloc (.cells #[.int .i64 3, .int .i64 (a : Int), .int .i64 (E : Int)] 39)) = W0 at *
 have HN5 := Lib.hid (HN.out.step hb5)
 clear hb5 HN
 have c0 := HN5.out.own.c0
 have c1 := HN5.out.own.c1
 have c2 := HN5.out.own.c2
 have f0 := HN5.out.own.f 0
 have f2 := HN5.out.own.f 2
 have r0 := HN5.out.res.c0
 have r1 := HN5.out.res.c1
 have r2 := HN5.out.res.c2
 have g0 := HN5.out.res.f 0
 have g1 := HN5.out.res.f 1
 have g2 := HN5.out.res.f 2
 by_cases hkz : kk = 0
 ·subst hkz
  go_wp2_with fail
  have HR2 := HN5.out.res.set 3 (a : Int) (E : Int)
  have HB2 := Lib.hid (((HN5.out.below.setCell (p := ⟨w.heap.size, 0, none⟩) (Nat.le_refl _) (.int .i64 3)).setCell (p := ⟨w.heap.size, 1, none⟩) (Nat.le_refl _) (.int .i64 (a : Int))).setCell (p := ⟨w.heap.size, 2, none⟩) (Nat.le_refl _) (.int .i64 (E : Int)))
  clear c0 c1 c2 f0 f2 r0 r1 r2 g0 g1 g2 HN5
  generalize (((w5.setCell ⟨w.heap.size, 0, none⟩ (.int .i64 3)).setCell ⟨w.heap.size, 1, none⟩ (.int .i64 (a : Int))).setCell ⟨w.heap.size, 2, none⟩ (.int .i64 (E : Int))) = W2 at *
  have c0 := HR2.c0
  have c1 := HR2.c1
  have c2 := HR2.c2
  try simp only [Exit.inBlock, Exit.then]
  refine bodyPost_ret (by simp [results, Tryz.results40, go_sem, c0, c1, c2, Result.andThen]; try rfl) rfl ?_
  exact ⟨tok_ret (E := E) (by rw [HTK.out, kdN_zero HDG.out (by rw [HEX.out, ← HKK.out])]) (by omega), HB2.out⟩
 ·have hne : (kk != 0) = true := by simpa using hkz
  have HNK := Lib.hid (HN5.out.setK kk)
  go_wp2_with fail
  generalize w5.setCell ⟨w.heap.size + 1, 0, none⟩ (.int .i64 kk) = w6 at *
  clear c0 c1 c2 f0 f2 r0 r1 r2 g0 g1 g2 HN5
  have c0 := HNK.out.own.c0
  have c1 := HNK.out.own.c1
  have c2 := HNK.out.own.c2
  have f0 := HNK.out.own.f 0
  have f2 := HNK.out.own.f 2
  have r0 := HNK.out.res.c0
  have r1 := HNK.out.res.c1
  have r2 := HNK.out.res.c2
  have g0 := HNK.out.res.f 0
  have g1 := HNK.out.res.f 1
  have g2 := HNK.out.res.f 2
  have HR2 := HNK.out.res.set kk (a : Int) (E : Int)
  have HB2 := Lib.hid (((HNK.out.below.setCell (p := ⟨w.heap.size, 0, none⟩) (Nat.le_refl _) (.int .i64 kk)).setCell (p := ⟨w.heap.size, 1, none⟩) (Nat.le_refl _) (.int .i64 (a : Int))).setCell (p := ⟨w.heap.size, 2, none⟩) (Nat.le_refl _) (.int .i64 (E : Int)))
  clear c0 c1 c2 f0 f2 r0 r1 r2 g0 g1 g2 HNK
  generalize (((w6.setCell ⟨w.heap.size, 0, none⟩ (.int .i64 kk)).setCell ⟨w.heap.size, 1, none⟩ (.int .i64 (a : Int))).setCell ⟨w.heap.size, 2, none⟩ (.int .i64 (E : Int))) = W2 at *
  have c0 := HR2.c0
  have c1 := HR2.c1
  have c2 := HR2.c2
  try simp only [Exit.inBlock, Exit.then]
  refine bodyPost_ret (by simp [results, Tryz.results40, go_sem, c0, c1, c2, Result.andThen]; try rfl) rfl ?_
  exact ⟨tok_ret (E := E) (by rw [HTK.out, kdN_some HDG.out (by rw [HEX.out, ← HKK.out]; exact hkz), HEX.out, ← HKK.out]) (by omega), HB2.out⟩
set_option maxHeartbeats 4000000 in
theorem dnext_else3 (s : ByteArray) (hs : s.size ≤ 1000000) (a : Nat) (ha : a < s.size) (h1 : blankB s[a] = false) (h2 : ((s[a].toNat : Int) == 34) = false) (h4 : restB s[a] = false) (h5 : signB s[a] = false) (h6 : ((s[a].toNat : Int) == 40) = true) (h7 : a + 1 < s.size) (h8 : ((s[a + 1].toNat : Int) == 42) = false) (w : World) :
  Calls Tryz.prog 40 #[.string s, .int .i64 a] w fun e w' => e = .returned (tokV a (tokN (s.data.toList.drop a))) ∧ Below w.heap.size w w' := by
 have hd0 : digB s[a] = false := by
  have q4 := h4
  unfold restB at q4
  simp only [Bool.or_eq_false_iff] at q4
  exact q4.1.1.2
 have hT := tok_else s a ha h1 h2 (by rw [drop_at s (a + 1) h7, show headB (s[a + 1] :: s.data.toList.drop (a + 1 + 1)) 42 = eqB s[a + 1] 42 from rfl, show eqB s[a + 1] 42 = false from h8]; simp) h4 h5
 have h9 : ∀ j (hj : j < s.size), j = a + 1 → ((s[j].toNat : Int) == 42) = false := fun j hj e => by subst e; exact h8
 have HJ9 := Lib.hid h9
 clear h8 h9
 have HDG := Lib.hid (dgB_no s a (a + 1) (by omega) (by omega) hd0)
 have HB := fun W => dblank_any s[a] W
 rw [h1] at HB
 have HR := fun W => refRest_any s[a] W
 rw [h4] at HR
 have HS := fun W => signs_any s[a] W
 rw [h5] at HS
 have HT := Lib.hid hT
 obtain ⟨E, hE⟩ : ∃ E : Nat, E = a + 1 := ⟨_, rfl⟩
 rw [← hE] at HDG
 have hEs : E ≤ s.size := by omega
 have haE : a < E := by omega
 have HTK : Hid (tokN (s.data.toList.drop a) = (kdN s a E, E - a)) := Lib.hid (by rw [HT.out, hE]; simp)
 have HN := Lib.hid (nx_new w 3 a E)
 have hEi : (a : Int) + 1 = (E : Int) := by omega
 have HEH := Lib.hid hE
 have hEl : E < s.size := by omega
 have h9 := HJ9.out E hEl hE
 clear HJ9 h7
 clear h1 h4 h5 hT hd0 hE HT
 have hsl := slice_to s a E (by omega) hEs
 have HKD := fun W => refKind_any (s.extract a E) W (by simp; omega)
 obtain ⟨kk, hkk⟩ : ∃ kk, kk = kindN (s.extract a E) := ⟨_, rfl⟩
 rw [← hkk] at HKD
 have HKK := Lib.hid hkk
 clear hkk
 generalize hex : s.extract a E = ex at *
 have HEX := Lib.hid hex
 clear hex
 go_enter Tryz.func40, Tryz.ntmps40
 go_wp2_with fail
 refine (HB _).mono ?_
 rintro e w1 ⟨rfl, rfl⟩
 go_wp2_with fail
 refine (HR _).mono ?_
 rintro e w1 ⟨rfl, rfl⟩
 go_wp2_with fail
 refine (HS _).mono ?_
 rintro e w1 ⟨rfl, rfl⟩
 go_wp2_with fail
 refine (HKD _).mono ?_
 rintro e w5 ⟨rfl, hb5⟩
 generalize ((w.alloc (.cells #[.int .i64 0, .int .i64 0, .int .i64 0] 39)).alloc (.cells #[.int .i64 3, .int .i64 (a : Int), .int .i64 (E : Int)] 39)) = W0 at *
 have HN5 := Lib.hid (HN.out.step hb5)
 clear hb5 HN
 have c0 := HN5.out.own.c0
 have c1 := HN5.out.own.c1
 have c2 := HN5.out.own.c2
 have f0 := HN5.out.own.f 0
 have f2 := HN5.out.own.f 2
 have r0 := HN5.out.res.c0
 have r1 := HN5.out.res.c1
 have r2 := HN5.out.res.c2
 have g0 := HN5.out.res.f 0
 have g1 := HN5.out.res.f 1
 have g2 := HN5.out.res.f 2
 by_cases hkz : kk = 0
 ·subst hkz
  go_wp2_with fail
  have HR2 := HN5.out.res.set 3 (a : Int) (E : Int)
  have HB2 := Lib.hid (((HN5.out.below.setCell (p := ⟨w.heap.size, 0, none⟩) (Nat.le_refl _) (.int .i64 3)).setCell (p := ⟨w.heap.size, 1, none⟩) (Nat.le_refl _) (.int .i64 (a : Int))).setCell (p := ⟨w.heap.size, 2, none⟩) (Nat.le_refl _) (.int .i64 (E : Int)))
  clear c0 c1 c2 f0 f2 r0 r1 r2 g0 g1 g2 HN5
  generalize (((w5.setCell ⟨w.heap.size, 0, none⟩ (.int .i64 3)).setCell ⟨w.heap.size, 1, none⟩ (.int .i64 (a : Int))).setCell ⟨w.heap.size, 2, none⟩ (.int .i64 (E : Int))) = W2 at *
  have c0 := HR2.c0
  have c1 := HR2.c1
  have c2 := HR2.c2
  try simp only [Exit.inBlock, Exit.then]
  refine bodyPost_ret (by simp [results, Tryz.results40, go_sem, c0, c1, c2, Result.andThen]; try rfl) rfl ?_
  exact ⟨tok_ret (E := E) (by rw [HTK.out, kdN_zero HDG.out (by rw [HEX.out, ← HKK.out])]) (by omega), HB2.out⟩
 ·have hne : (kk != 0) = true := by simpa using hkz
  have HNK := Lib.hid (HN5.out.setK kk)
  go_wp2_with fail
  generalize w5.setCell ⟨w.heap.size + 1, 0, none⟩ (.int .i64 kk) = w6 at *
  clear c0 c1 c2 f0 f2 r0 r1 r2 g0 g1 g2 HN5
  have c0 := HNK.out.own.c0
  have c1 := HNK.out.own.c1
  have c2 := HNK.out.own.c2
  have f0 := HNK.out.own.f 0
  have f2 := HNK.out.own.f 2
  have r0 := HNK.out.res.c0
  have r1 := HNK.out.res.c1
  have r2 := HNK.out.res.c2
  have g0 := HNK.out.res.f 0
  have g1 := HNK.out.res.f 1
  have g2 := HNK.out.res.f 2
  have HR2 := HNK.out.res.set kk (a : Int) (E : Int)
  have HB2 := Lib.hid (((HNK.out.below.setCell (p := ⟨w.heap.size, 0, none⟩) (Nat.le_refl _) (.int .i64 kk)).setCell (p := ⟨w.heap.size, 1, none⟩) (Nat.le_refl _) (.int .i64 (a : Int))).setCell (p := ⟨w.heap.size, 2, none⟩) (Nat.le_refl _) (.int .i64 (E : Int)))
  clear c0 c1 c2 f0 f2 r0 r1 r2 g0 g1 g2 HNK
  generalize (((w6.setCell ⟨w.heap.size, 0, none⟩ (.int .i64 kk)).setCell ⟨w.heap.size, 1, none⟩ (.int .i64 (a : Int))).setCell ⟨w.heap.size, 2, none⟩ (.int .i64 (E : Int))) = W2 at *
  have c0 := HR2.c0
  have c1 := HR2.c1
  have c2 := HR2.c2
  try simp only [Exit.inBlock, Exit.then]
  refine bodyPost_ret (by simp [results, Tryz.results40, go_sem, c0, c1, c2, Result.andThen]; try rfl) rfl ?_
  exact ⟨tok_ret (E := E) (by rw [HTK.out, kdN_some HDG.out (by rw [HEX.out, ← HKK.out]; exact hkz), HEX.out, ← HKK.out]) (by omega), HB2.out⟩
theorem dnext_any (s : ByteArray) (hs : s.size ≤ 1000000) (a : Nat) (ha : a < s.size) (w : World) :
  Calls Tryz.prog 40 #[.string s, .int .i64 a] w fun e w' => e = .returned (tokV a (tokN (s.data.toList.drop a))) ∧ Below w.heap.size w w' := by
 cases h1 : blankB s[a]
 ·cases h2 : ((s[a].toNat : Int) == 34)
  ·cases h4 : restB s[a]
   ·cases h5 : signB s[a]
    ·cases h6 : ((s[a].toNat : Int) == 40)
     ·exact dnext_else1 s hs a ha h1 h2 h4 h5 h6 w
     ·by_cases h7 : a + 1 < s.size
      ·cases h8 : ((s[a + 1].toNat : Int) == 42)
       ·exact dnext_else3 s hs a ha h1 h2 h4 h5 h6 h7 h8 w
       ·exact dnext_note s hs a ha h6 h7 h8 w
      ·exact dnext_else2 s hs a ha h1 h2 h4 h5 h6 (by omega) w
    ·exact dnext_sign s hs a ha h5 w
   ·exact dnext_rest s hs a ha h4 w
  ·exact dnext_text s hs a ha h2 w
 ·exact dnext_blank s hs a ha h1 w
end Go.Proofs.YtkjgkchdkeggoaaGreatDoor

namespace Go.Proofs.YtkjgkchdkeggoaaGreatDoor
open Go.RowKit
set_option maxRecDepth 20000
set_option linter.unusedVariables false
set_option linter.unusedSimpArgs false

/-- A token more in a row of the call's own. -/
theorem toks_more {w1 w2 : World} {base : Nat} {v v' : Value} {l : List Tok} {k : Int} {a e : Nat} (h : w2.ownsRow base 39 3 v' (l.length + 1) (cellsT l ++ [.int .i64 k, .int .i64 (a : Int), .int .i64 (e : Int)])) : w2.ownsRow base 39 3 v' (l ++ [(⟨k, a, e⟩ : Tok)]).length (cellsT (l ++ [(⟨k, a, e⟩ : Tok)])) := by
 rw [List.length_append, List.length_singleton, cellsT_append]; exact h

set_option maxHeartbeats 2000000 in
theorem dscan_any (s : ByteArray) (hs : s.size ≤ 1000000) (w : World) :
  Calls Tryz.prog 25 #[.string s] w fun e w' => ∃ v, e = .returned v ∧ ToksAt w' v (scanT s) ∧ Below w.heap.size w w' := by
 obtain ⟨i0, hi0, hy0, hy1, hy2⟩ := info_parts info26
 have HSC : Hid (scanT s = scanF s.size 0 s.data.toList ++ [⟨0, s.size, s.size⟩]) := Lib.hid (by unfold scanT restT; rw [List.drop_zero])
 go_enter Tryz.func25, Tryz.ntmps25
 go_wp2_with fail
 go_loopw [3, 4, 5] (fun v av iv wr => ∃ (i a : Nat) (l : List Tok), i ≤ a ∧ a ≤ s.size ∧ l.length = i ∧ av = .int .i64 a ∧ iv = .int .i64 i ∧ Hid (scanF s.size 0 s.data.toList = l ++ scanF s.size a (s.data.toList.drop a)) ∧ Hid (wr.ownsRow w.heap.size 39 3 v l.length (cellsT l)) ∧ Below w.heap.size w wr) (fun _ _ iv _ => s.size + 1 - (intOf iv).toNat)
 case atStart => exact ⟨0, 0, [], by omega, by omega, rfl, rfl, rfl, Lib.hid (by rw [List.drop_zero]; rfl), Lib.hid (World.ownsRow_nil _ _ _ _), Below.refl _ _⟩
 case round =>
  obtain ⟨i, a, l, hia, has, hl, rfl, rfl, HQ, HO, hbe⟩ := hrel
  subst hl
  obtain ⟨vp, vc, rfl⟩ := own_form HO.out
  have hz := hbe.size
  have HB := Lib.hid hbe
  clear hbe
  have hi1 : (l.length : Int) ≤ (s.size : Int) := by omega
  by_cases hlt : a < s.size
  ·have hbo := tokN_bound (s.data.toList.drop a) (by rw [drop_at s a hlt]; simp)
   rw [List.length_drop, data_len] at hbo
   have hsc := scan_at s a hlt
   have HN := Lib.hid (dnext_any s hs a hlt wr)
   unfold tokV at HN
   generalize tokN (s.data.toList.drop a) = t at *
   obtain ⟨tk, tn⟩ := t
   simp only at hbo hsc HN
   obtain ⟨E, hE⟩ : ∃ E, E = a + tn := ⟨_, rfl⟩
   rw [← hE] at hsc HN
   have hE1 : a < E := by omega
   have hE2 : E ≤ s.size := by omega
   have HS := Lib.hid hsc
   clear hbo hsc hE
   have hla : (a : Int) < (s.size : Int) := by omega
   go_wp2_with fail
   refine HN.out.mono ?_
   rintro e w1 ⟨rfl, hb1⟩
   have hz1 := hb1.size
   have hbA : Below w1.heap.size w1 (w1.alloc (.cells #[.int .i64 tk, .int .i64 (a : Int), .int .i64 (E : Int)] 39)) := (Below.refl _ _).alloc (Nat.le_refl _) _
   have hbA2 : Below (w1.alloc (.cells #[.int .i64 tk, .int .i64 (a : Int), .int .i64 (E : Int)] 39)).heap.size (w1.alloc (.cells #[.int .i64 tk, .int .i64 (a : Int), .int .i64 (E : Int)] 39)) ((w1.alloc (.cells #[.int .i64 tk, .int .i64 (a : Int), .int .i64 (E : Int)] 39)).alloc (.cells #[.int .i64 tk, .int .i64 (a : Int), .int .i64 (E : Int)] 39)) := (Below.refl _ _).alloc (Nat.le_refl _) _
   have HOA := Lib.hid (ownsRow_below (ownsRow_below (ownsRow_below HO.out hb1) hbA) hbA2)
   have HBA := Lib.hid ((HB.out.trans (hb1.mono hz)).trans ((hbA.trans (hbA2.mono (by simp))).mono (by omega)))
   have HKX := Lib.hid ((hbA2.block w1.heap.size (by simp)).trans (heap_alloc_new w1 (.cells #[.int .i64 tk, .int .i64 (a : Int), .int .i64 (E : Int)] 39)))
   have HFR := Lib.hid (HO.out.lt)
   clear hbA hbA2 HN hb1
   have hl2 : l.length ≤ 1000000 := by omega
   go_wp2_with (at_builtin; refine wpList_append_own _ rfl _ _ 32 rfl w.heap.size 39 i0 (.agg #[.int .i64 0, .int .i64 0, .int .i64 0]) 3 24 Tryz.underlying32 hi0 hy0 hy1 hy2 rfl (by omega) (.slice vp l.length vc) l.length (cellsT l) rfl HOA.out ⟨w1.heap.size + 1, 0, none⟩ 1 1 [.int .i64 tk, .int .i64 (a : Int), .int .i64 (E : Int)] rfl rfl (World.news_of_block (cs := #[.int .i64 tk, .int .i64 (a : Int), .int .i64 (E : Int)]) (t := 39) (fr := (0, 0)) (by have := heap_alloc_new (w1.alloc (.cells #[.int .i64 tk, .int .i64 (a : Int), .int .i64 (E : Int)] 39)) (.cells #[.int .i64 tk, .int .i64 (a : Int), .int .i64 (E : Int)] 39); simpa using this)) (by simp [Value.oneCell']) (by unfold maxLen; omega) (by omega) (by simp; omega) ?_)
   intro v5 w5 hown hg _
   have hkx := Lib.cell_of_heap ((hg.block w1.heap.size (by simp; omega) (fun e => by have := (HFR.out _ e.symm).2; omega)).trans HKX.out) 2
   simp only [List.getElem?_toArray, List.getElem?_cons_zero, List.getElem?_cons_succ] at hkx
   have HO5 := Lib.hid (toks_more (w1 := w1) (v := v5) hown)
   have HB5 := Lib.hid (HBA.out.grown hg (by simp; omega) (fun q hq => (HFR.out q hq).1))
   clear hown hg
   go_wp2_with fail
   go_roundw
   case rel => exact ⟨l.length + 1, E, l ++ [⟨tk, a, E⟩], by omega, hE2, by simp, rfl, by go_num, Lib.hid (by rw [HQ.out, HS.out, List.append_assoc]; rfl), HO5, HB5.out⟩
   case measure => simp [intOf]; omega
  ·have hae : a = s.size := by omega
   have hla : ¬ (a : Int) < (s.size : Int) := by omega
   have HE : Hid (scanT s = l ++ [⟨0, s.size, s.size⟩]) := Lib.hid (by rw [HSC.out, HQ.out, scan_end s a _ (by omega)]; simp)
   have hbA : Below wr.heap.size wr (wr.alloc (.cells #[.int .i64 0, .int .i64 (s.size : Int), .int .i64 (s.size : Int)] 39)) := (Below.refl _ _).alloc (Nat.le_refl _) _
   have HOA := Lib.hid (ownsRow_below HO.out hbA)
   have HBA := Lib.hid (HB.out.trans (hbA.mono hz))
   have HFR := Lib.hid (HO.out.lt)
   clear hbA
   have hl2 : l.length ≤ 1000000 := by omega
   go_wp2_with (at_builtin; refine wpList_append_own _ rfl _ _ 32 rfl w.heap.size 39 i0 (.agg #[.int .i64 0, .int .i64 0, .int .i64 0]) 3 24 Tryz.underlying32 hi0 hy0 hy1 hy2 rfl (by omega) (.slice vp l.length vc) l.length (cellsT l) rfl HOA.out ⟨wr.heap.size, 0, none⟩ 1 1 [.int .i64 0, .int .i64 (s.size : Int), .int .i64 (s.size : Int)] rfl rfl (World.news_of_block (cs := #[.int .i64 0, .int .i64 (s.size : Int), .int .i64 (s.size : Int)]) (t := 39) (fr := (0, 0)) (heap_alloc_new wr _)) (by simp [Value.oneCell']) (by unfold maxLen; omega) (by omega) (by simp; omega) ?_)
   intro v5 w5 hown hg _
   have HO5 := Lib.hid (toks_more (w1 := wr) (v := v5) hown)
   have HB5 := Lib.hid (HBA.out.grown hg (by simp; omega) (fun q hq => (HFR.out q hq).1))
   clear hown hg
   go_wp2_with fail
   go_ret
   exact ⟨_, rfl, ⟨_, by rw [HE.out]; exact HO5.out⟩, HB5.out⟩
theorem pick_take (ask : Int → Bool) (l : List Tok) (i : Nat) (h : i < l.length) : pickT ask (l.take (i + 1)) = pickT ask (l.take i) ++ (bif ask l[i].k then [l[i]] else []) := by
 rw [List.take_succ_eq_append_getElem h, pickT_append]
 rfl
theorem scanT_len (s : ByteArray) : 0 < (scanT s).length ∧ (scanT s).length ≤ s.size + 1 := by
 have := (scanF_in s.size 0 s.data.toList).2
 rw [data_len] at this
 unfold scanT restT
 rw [List.drop_zero, List.length_append, List.length_singleton]
 omega

set_option maxHeartbeats 2000000 in
theorem dwords_any (s : ByteArray) (hs : s.size ≤ 1000000) (w : World) :
  Calls Tryz.prog 11 #[.string s] w fun e w' => ∃ v, e = .returned v ∧ ToksAt w' v (wordsT s) ∧ Below w.heap.size w w' := by
 obtain ⟨i0, hi0, hy0, hy1, hy2⟩ := info_parts info26
 have hlen := scanT_len s
 have HD := Lib.hid (dscan_any s hs w)
 have HW : Hid (wordsT s = pickT saysB (scanT s)) := Lib.hid rfl
 generalize scanT s = L at *
 go_enter Tryz.func11, Tryz.ntmps11
 go_wp2_with fail
 refine HD.out.mono ?_
 rintro e w1 ⟨v1, rfl, ht, hb1⟩
 obtain ⟨g, c, rfl, hc, hm, hg, hcells⟩ := ht.open hlen.1
 have HC := Lib.hid hcells
 have HB1 := Lib.hid hb1
 have hz1 := hb1.size
 clear ht hcells HD hb1
 go_wp2_with fail
 go_loopw [3, 5] (fun v iv wr => ∃ i : Nat, i ≤ L.length ∧ iv = .int .i64 i ∧ Hid (wr.ownsRow w1.heap.size 39 3 v (pickT saysB (L.take i)).length (cellsT (pickT saysB (L.take i)))) ∧ Below w1.heap.size w1 wr) (fun _ iv _ => L.length - (intOf iv).toNat)
 case atStart => exact ⟨0, by omega, rfl, Lib.hid (World.ownsRow_nil _ _ _ _), Below.refl _ _⟩
 case round =>
  obtain ⟨i, hi, rfl, HO, hbe⟩ := hrel
  obtain ⟨vp, vc, rfl⟩ := own_form HO.out
  have hz := hbe.size
  by_cases hlt : i < L.length
  ·obtain ⟨q0, q1, q2⟩ := (HC.out.step hg hbe) i hlt
   have hT := pick_take saysB L i hlt
   have hpl := pickT_length saysB (L.take i)
   rw [List.length_take] at hpl
   have hr1 : (0 : Int) ≤ (i : Int) := by omega
   have hr2 : (i : Int) < (L.length : Int) := by omega
   have HB := Lib.hid hbe
   generalize pickT saysB (L.take i) = P at *
   have hpl2 : P.length ≤ 1000001 := by omega
   clear hbe hpl
   generalize L[i] = T at *
   obtain ⟨tk, ta, te⟩ := T
   simp only at q0 q1 q2 hT
   by_cases h1 : tk = 1
   ·subst h1
    have HT : Hid (pickT saysB (L.take (i + 1)) = P) := Lib.hid (by rw [hT]; simp [saysB])
    clear hT
    go_wp2_with fail
    go_roundw
    case rel => exact ⟨i + 1, by omega, by go_num, by rw [HT.out]; exact HO, HB.out⟩
    case measure => simp [intOf]; omega
   ·by_cases h2 : tk = 2
    ·subst h2
     have HT : Hid (pickT saysB (L.take (i + 1)) = P) := Lib.hid (by rw [hT]; simp [saysB])
     clear hT
     go_wp2_with fail
     go_roundw
     case rel => exact ⟨i + 1, by omega, by go_num, by rw [HT.out]; exact HO, HB.out⟩
     case measure => simp [intOf]; omega
    ·have HT : Hid (pickT saysB (L.take (i + 1)) = P ++ [⟨tk, ta, te⟩]) := Lib.hid (by
      have e1 : (tk == 1) = false := by simpa using h1
      have e2 : (tk == 2) = false := by simpa using h2
      rw [hT]; simp only [saysB, e1, e2]; rfl)
     have h1' : (tk != 1) = true := by simp [h1]
     have h2' : (tk != 2) = true := by simp [h2]
     have hbA : Below wr.heap.size wr (wr.alloc (.cells #[.int .i64 tk, .int .i64 (ta : Int), .int .i64 (te : Int)] 39)) := (Below.refl _ _).alloc (Nat.le_refl _) _
     have HOA := Lib.hid (ownsRow_below HO.out hbA)
     have HBA := Lib.hid (HB.out.trans (hbA.mono hz))
     have HFR := Lib.hid (HO.out.lt)
     clear hbA hT
     go_wp2_with (at_builtin; refine wpList_append_own _ rfl _ _ 32 rfl w1.heap.size 39 i0 (.agg #[.int .i64 0, .int .i64 0, .int .i64 0]) 3 24 Tryz.underlying32 hi0 hy0 hy1 hy2 rfl (by omega) (.slice vp P.length vc) P.length (cellsT P) rfl HOA.out ⟨wr.heap.size, 0, none⟩ 1 1 [.int .i64 tk, .int .i64 (ta : Int), .int .i64 (te : Int)] rfl rfl (World.news_of_block (cs := #[.int .i64 tk, .int .i64 (ta : Int), .int .i64 (te : Int)]) (t := 39) (fr := (0, 0)) (heap_alloc_new wr _)) (by simp [Value.oneCell']) (by unfold maxLen; omega) (by omega) (by simp; omega) ?_)
     intro v5 w5 hown hg5 _
     have HO5 := Lib.hid (toks_more (w1 := wr) (v := v5) hown)
     have HB5 := Lib.hid (HBA.out.grown hg5 (by simp; omega) (fun q hq => (HFR.out q hq).1))
     clear hown hg5
     go_wp2_with fail
     go_roundw
     case rel => exact ⟨i + 1, by omega, by go_num, by rw [HT.out]; exact HO5, HB5.out⟩
     case measure => simp [intOf]; omega
  ·have hil : i = L.length := by omega
   have HTL := Lib.hid (List.take_of_length_le (l := L) (i := i) (by omega))
   have HB := Lib.hid (HB1.out.trans (hbe.mono hz1))
   clear hbe
   go_wp2_with fail
   go_ret
   exact ⟨_, rfl, ⟨_, by rw [HW.out, ← HTL.out]; simpa [List.take_take] using HO.out⟩, HB.out⟩

/-- What the document says of a token. -/
def badD (s : ByteArray) (T : Tok) : Int := bif noBad T then 0 else badN s T.a
set_option maxHeartbeats 2000000 in
theorem dbad_any (s : ByteArray) (hs : s.size ≤ 1000000) (T : Tok) (hT : T.k = 3 → T.a < T.e ∧ T.e ≤ s.size) (w : World) :
  Calls Tryz.prog 28 #[T.v, .string s] w fun e w' => e = .returned (.int .i64 (badD s T)) ∧ Below w.heap.size w w' := by
 obtain ⟨k, a, e⟩ := T
 simp only [Tok.v] at *
 have HBL := Lib.hid ((Below.refl w.heap.size w).alloc (Nat.le_refl _) (.cells #[.int .i64 k, .int .i64 (a : Int), .int .i64 (e : Int)] 39))
 by_cases h3 : k = 3
 ·subst h3
  obtain ⟨h1, h2⟩ := hT rfl
  have ha : a < s.size := by omega
  have g1 : ¬ (a : Int) < 0 := by omega
  have g2 : ¬ (s.size : Int) ≤ (a : Int) := by omega
  have g3 : ¬ (e : Int) ≤ (a : Int) := by omega
  have g4 : ¬ (s.size : Int) < (e : Int) := by omega
  have hR : badD s ⟨3, a, e⟩ = bif ((s[a].toNat : Int) == 34) || ((s[a].toNat : Int) == 40) then 8 else 7 := by
   unfold badD badN
   rw [drop_at s a ha]
   unfold headB eqB
   rfl
  rw [hR]
  clear hT hR
  cases q1 : ((s[a].toNat : Int) == 34)
  ·cases q2 : ((s[a].toNat : Int) == 40)
   ·go_enter Tryz.func28, Tryz.ntmps28
    go_wp2_with fail
    go_ret
    exact ⟨rfl, HBL.out⟩
   ·go_enter Tryz.func28, Tryz.ntmps28
    go_wp2_with fail
    go_ret
    exact ⟨rfl, HBL.out⟩
  ·go_enter Tryz.func28, Tryz.ntmps28
   go_wp2_with fail
   go_ret
   exact ⟨rfl, HBL.out⟩
 ·have hk : (k != 3) = true := by simp [h3]
  have HR : Hid (badD s ⟨k, a, e⟩ = 0) := Lib.hid (by
   unfold badD noBad
   have : (k == 3) = false := by simpa using h3
   simp only [this]; rfl)
  rw [HR.out]
  clear hT
  go_enter Tryz.func28, Tryz.ntmps28
  go_wp2_with fail
  go_ret
  exact ⟨rfl, HBL.out⟩
end Go.Proofs.YtkjgkchdkeggoaaGreatDoor

namespace Go.Proofs.YtkjgkchdkeggoaaGreatDoor
open Go.RowKit
set_option maxRecDepth 20000
set_option linter.unusedVariables false
set_option linter.unusedSimpArgs false

set_option maxHeartbeats 2000000 in
theorem dfirst_any (s : ByteArray) (hs : s.size ≤ 1000000) (w : World) :
  Calls Tryz.prog 15 #[.string s] w fun e w' => e = .returned (.tuple #[.int .i64 (firstN s).1, .int .i64 (firstN s).2]) ∧ Below w.heap.size w w' := by
 have hlen := scanT_len s
 have HD := Lib.hid (dscan_any s hs w)
 have HF : Hid (firstN s = firstT s (scanT s)) := Lib.hid rfl
 have HIN : Hid (∀ T ∈ scanT s, T.k = 3 → T.a < T.e ∧ T.e ≤ s.size) := Lib.hid (fun T hT hk => by
  have h := (scanF_in s.size 0 s.data.toList).1
  unfold scanT restT at hT
  rw [List.drop_zero] at hT
  rcases List.mem_append.1 hT with hT | hT
  ·obtain ⟨_, h2, h3, _⟩ := h T hT
   rw [data_len] at h3
   exact ⟨h2, by omega⟩
  ·obtain rfl := List.mem_singleton.1 hT
   cases hk)
 generalize firstN s = fn at *
 obtain ⟨f1, f2⟩ := fn
 generalize scanT s = L at *
 go_enter Tryz.func15, Tryz.ntmps15
 go_wp2_with fail
 refine HD.out.mono ?_
 rintro e w1 ⟨v1, rfl, ht, hb1⟩
 obtain ⟨g, c, rfl, hc, hm, hg, hcells⟩ := ht.open hlen.1
 have HC := Lib.hid hcells
 have HB1 := Lib.hid hb1
 have hz1 := hb1.size
 clear ht hcells HD hb1
 go_wp2_with fail
 go_loopw [5] (fun iv wr => ∃ i : Nat, i ≤ L.length ∧ iv = .int .i64 i ∧ Hid ((f1, f2) = firstT s (L.drop i)) ∧ Below w1.heap.size w1 wr) (fun iv _ => L.length - (intOf iv).toNat)
 case atStart => exact ⟨0, by omega, rfl, Lib.hid (by rw [HF.out]; rfl), Below.refl _ _⟩
 case round =>
  obtain ⟨i, hi, rfl, HQ, hbe⟩ := hrel
  have hz := hbe.size
  by_cases hlt : i < L.length
  ·obtain ⟨q0, q1, q2⟩ := (HC.out.step hg hbe) i hlt
   have hr1 : (0 : Int) ≤ (i : Int) := by omega
   have hr2 : (i : Int) < (L.length : Int) := by omega
   have HB := Lib.hid hbe
   have hq := HQ.out
   rw [List.drop_eq_getElem_cons hlt] at hq
   simp only [firstT] at hq
   have HBD := Lib.hid (fun W => dbad_any s hs L[i] (HIN.out _ (List.getElem_mem hlt)) W)
   unfold badD at HBD
   clear hbe HQ
   generalize L[i] = T at *
   obtain ⟨tk, ta, te⟩ := T
   simp only [Tok.v] at q0 q1 q2 HBD hq
   have hgl : g < wr.heap.size := by omega
   cases hn : noBad ⟨tk, ta, te⟩
   ·rw [hn] at HBD hq
    simp only [cond_false] at HBD hq
    have hne := badN_ne s ta
    generalize badN s ta = bd at *
    have hne2 : (bd != 0) = true := by simpa using hne
    have HQ2 := Lib.hid hq
    have HP := Lib.hid (And.intro q0 (And.intro q1 q2))
    clear hq hn hne
    go_wp2_with fail
    refine (HBD.out _).mono ?_
    rintro e w4 ⟨rfl, hb4⟩
    have HB4 := Lib.hid hb4
    clear hb4 q0 q1 q2
    go_wp2_with fail
    obtain ⟨p0, p1, p2⟩ := HP.out
    refine wp_region_till (fun W : World => Below wr.heap.size wr W) 12 (by kernel_rfl) ?_
    have hS : (fun W : World => Below wr.heap.size wr W) w4.drew := HB4.out.drew
    refine start_fp (N := 34) [(0, .string s), (4, .slice (some ⟨g, 0, none⟩) L.length c), (5, .int .i64 (i : Int))] (Fs.of rfl rfl (by simp [Act.eval])) ?_
    intro a0 ha0 hF
    refine take_fp 0 [2, 3, 4, 11, 12] (oi := { dst := some 21, op := Op.move (Operand.tmp 4), type := 32, pos := "ref.go:129", after := #[], guard := none }) (d := 21) (v := .slice (some ⟨g, 0, none⟩) L.length c) hF hS rfl rfl (by decide) (by kernel_rfl) (by kernel_rfl) (by kernel_rfl) (by kernel_rfl) (fun _ _ _ h => h) (fun a' hA => wanted_none rfl) (run_move_fs rfl rfl) ?_
    clear hF
    intro hF
    refine take_fp 1 [2, 3, 4, 11, 12] (oi := { dst := some 22, op := Op.move (Operand.tmp 5), type := 3, pos := "ref.go:129", after := #[], guard := none }) (d := 22) (v := .int .i64 (i : Int)) hF hS rfl rfl (by decide) (by kernel_rfl) (by kernel_rfl) (by kernel_rfl) (by kernel_rfl) (fun _ _ _ h => h) (fun a' hA => wanted_none rfl) (run_move_fs rfl rfl) ?_
    clear hF
    intro hF
    refine take_fp 2 [3, 4, 11, 12] (oi := { dst := some 23, op := Op.indexAddr 32 (Operand.tmp 21) (Operand.tmp 22), type := 0, pos := "ref.go:129", after := #[{ on := 0, ground := Ground.data }, { on := 1, ground := Ground.data }], guard := none }) (d := 23) (v := .pointer (some ⟨g, i * 3, none⟩)) hF hS rfl rfl (by decide) (by kernel_rfl) (by kernel_rfl) (by kernel_rfl) (by kernel_rfl) (fun _ _ _ h => h) (fun a' hA => wanted_none rfl) (fun a' hA w' hw => by have e21 := hA.get 21 rfl; have e22 := hA.get 22 rfl; have ec : ∀ v, a'.eval (.const v) = v := fun _ => rfl; clear hA; generalize a'.eval = ρ at *; simp [go_sem, ec, e21, e22, hr1, hr2]; try rfl) ?_
    clear hF
    intro hF
    refine take_fp 3 [4, 11, 12] (oi := { dst := some 24, op := Op.fieldAddr 39 (Operand.tmp 23) 1, type := 0, pos := "ref.go:129", after := #[{ on := 2, ground := Ground.data }], guard := none }) (d := 24) (v := .pointer (some ⟨g, i * 3 + 1, none⟩)) hF hS rfl rfl (by decide) (by kernel_rfl) (by kernel_rfl) (by kernel_rfl) (by kernel_rfl) (fun _ _ _ h => h) (fun a' hA => wanted_none rfl) (fun a' hA w' hw => by have e23 := hA.get 23 rfl; have ec : ∀ v, a'.eval (.const v) = v := fun _ => rfl; clear hA; generalize a'.eval = ρ at *; simp [go_sem, ec, e23]; try rfl) ?_
    clear hF
    intro hF
    refine take_fp 4 [11, 12] (oi := { dst := some 25, op := Op.load 3 (Operand.tmp 24), type := 3, pos := "ref.go:129", after := #[{ on := 3, ground := Ground.data }], guard := none }) (d := 25) (v := .int .i64 (ta : Int)) hF hS rfl rfl (by decide) (by kernel_rfl) (by kernel_rfl) (by kernel_rfl) (by kernel_rfl) (fun _ _ _ h => h) (fun a' hA => wanted_none rfl) (fun a' hA w' hw => by have e24 := hA.get 24 rfl; have ec : ∀ v, a'.eval (.const v) = v := fun _ => rfl; have q0 := (hw.cell (p := ⟨g, i * 3, none⟩) hgl).trans p0; have q1 := (hw.cell (p := ⟨g, i * 3 + 1, none⟩) hgl).trans p1; have q2 := (hw.cell (p := ⟨g, i * 3 + 2, none⟩) hgl).trans p2; clear hA; generalize a'.eval = ρ at *; simp [go_sem, ec, e24, q1]; try rfl) ?_
    clear hF
    intro hF
    refine take_fp 5 [7, 8, 10, 11, 12] (oi := { dst := some 26, op := Op.move (Operand.tmp 4), type := 32, pos := "ref.go:129", after := #[], guard := none }) (d := 26) (v := .slice (some ⟨g, 0, none⟩) L.length c) hF hS rfl rfl (by decide) (by kernel_rfl) (by kernel_rfl) (by kernel_rfl) (by kernel_rfl) (fun _ _ _ h => h) (fun a' hA => wanted_none rfl) (run_move_fs rfl rfl) ?_
    clear hF
    intro hF
    refine take_fp 6 [7, 8, 10, 11, 12] (oi := { dst := some 27, op := Op.move (Operand.tmp 5), type := 3, pos := "ref.go:129", after := #[], guard := none }) (d := 27) (v := .int .i64 (i : Int)) hF hS rfl rfl (by decide) (by kernel_rfl) (by kernel_rfl) (by kernel_rfl) (by kernel_rfl) (fun _ _ _ h => h) (fun a' hA => wanted_none rfl) (run_move_fs rfl rfl) ?_
    clear hF
    intro hF
    refine take_fp 7 [8, 10, 11, 12] (oi := { dst := some 28, op := Op.indexAddr 32 (Operand.tmp 26) (Operand.tmp 27), type := 0, pos := "ref.go:129", after := #[{ on := 5, ground := Ground.data }, { on := 6, ground := Ground.data }], guard := none }) (d := 28) (v := .pointer (some ⟨g, i * 3, none⟩)) hF hS rfl rfl (by decide) (by kernel_rfl) (by kernel_rfl) (by kernel_rfl) (by kernel_rfl) (fun _ _ _ h => h) (fun a' hA => wanted_none rfl) (fun a' hA w' hw => by have e26 := hA.get 26 rfl; have e27 := hA.get 27 rfl; have ec : ∀ v, a'.eval (.const v) = v := fun _ => rfl; clear hA; generalize a'.eval = ρ at *; simp [go_sem, ec, e26, e27, hr1, hr2]; try rfl) ?_
    clear hF
    intro hF
    refine take_fp 8 [10, 11, 12] (oi := { dst := some 29, op := Op.load 39 (Operand.tmp 28), type := 39, pos := "ref.go:129", after := #[{ on := 7, ground := Ground.data }], guard := none }) (d := 29) (v := .agg #[.int .i64 tk, .int .i64 (ta : Int), .int .i64 (te : Int)]) hF hS rfl rfl (by decide) (by kernel_rfl) (by kernel_rfl) (by kernel_rfl) (by kernel_rfl) (fun _ _ _ h => h) (fun a' hA => wanted_none rfl) (fun a' hA w' hw => by have e28 := hA.get 28 rfl; have ec : ∀ v, a'.eval (.const v) = v := fun _ => rfl; have q0 := (hw.cell (p := ⟨g, i * 3, none⟩) hgl).trans p0; have q1 := (hw.cell (p := ⟨g, i * 3 + 1, none⟩) hgl).trans p1; have q2 := (hw.cell (p := ⟨g, i * 3 + 2, none⟩) hgl).trans p2; clear hA; generalize a'.eval = ρ at *; simp [go_sem, ec, e28, q0, q1, q2]; try rfl) ?_
    clear hF
    intro hF
    refine take_fp 9 [10, 11, 12] (oi := { dst := some 30, op := Op.move (Operand.tmp 0), type := 9, pos := "ref.go:129", after := #[], guard := none }) (d := 30) (v := .string s) hF hS rfl rfl (by decide) (by kernel_rfl) (by kernel_rfl) (by kernel_rfl) (by kernel_rfl) (fun _ _ _ h => h) (fun a' hA => wanted_none rfl) (run_move_fs rfl rfl) ?_
    clear hF
    intro hF
    refine call_fp 10 (oi := { dst := some 31, op := Op.call { callee := Callee.value (Operand.func 28), args := #[Operand.tmp 29, Operand.tmp 30], argTypes := #[39, 9] }, type := 3, pos := "ref.go:129", after := #[{ on := 8, ground := Ground.data }, { on := 9, ground := Ground.data }], guard := none }) (d := 31) (R := fun e w' => e = .returned (.int .i64 bd) ∧ Below wr.heap.size wr w') hF rfl rfl (by decide) (by kernel_rfl) (fun a' hA => wanted_none rfl) (fun a' hA => by have e29 := hA.get 29 rfl; have e30 := hA.get 30 rfl; have ef : ∀ f, a'.eval (.func f) = .func (.func f) #[] #[] := fun _ => rfl; have ec : ∀ v, a'.eval (.const v) = v := fun _ => rfl; clear hA; generalize a'.eval = ρ at *; simp [go_sem, ef, ec, e29, e30]) ((HBD.out _).mono (by rintro e w' ⟨rfl, hb⟩; exact ⟨rfl, hS.trans (hb.mono hS.size)⟩)) (by rintro w' ⟨h, _⟩; cases h) (by rintro ch w' ⟨h, _⟩; cases h) ?_
    rintro v10 w10x ⟨h, hb⟩
    have h := Ending.returned.inj h
    subst h
    refine ⟨fun _ => hb, ?_⟩
    clear hS
    have hS : (fun W : World => Below wr.heap.size wr W) w10x := hb
    clear hb hF
    intro hF
    refine wpTill_alone 11 (by kernel_rfl) (make_op 11 (oi := { dst := some 2, op := Op.assign (Operand.tmp 25), type := 3, pos := "ref.go:129", after := #[{ on := 4, ground := Ground.data }, { on := 10, ground := Ground.chain }, { on := 0, ground := Ground.phase }, { on := 1, ground := Ground.phase }, { on := 2, ground := Ground.phase }, { on := 3, ground := Ground.phase }, { on := 4, ground := Ground.phase }, { on := 5, ground := Ground.textOnly Departure.lateStores }, { on := 6, ground := Ground.textOnly Departure.lateStores }, { on := 7, ground := Ground.textOnly Departure.lateStores }, { on := 8, ground := Ground.textOnly Departure.lateStores }, { on := 9, ground := Ground.textOnly Departure.lateStores }, { on := 10, ground := Ground.textOnly Departure.lateStoresUnsure }], guard := none }) (d := 2) (v := .int .i64 (ta : Int)) (w' := w10x) hF rfl rfl (by decide) (fun a' hA => wanted_none rfl) (fun a' hA => by have e25 := hA.get 25 rfl; have ec : ∀ v, a'.eval (.const v) = v := fun _ => rfl; clear hA; generalize a'.eval = ρ at *; simp [go_sem, ec, e25]; try rfl) ?_)
    clear hF
    intro hF
    refine ⟨fun _ => hS, ?_⟩
    refine wpTill_alone 12 (by kernel_rfl) (make_op 12 (oi := { dst := some 3, op := Op.assign (Operand.tmp 31), type := 3, pos := "ref.go:129", after := #[{ on := 10, ground := Ground.data }, { on := 11, ground := Ground.chain }, { on := 0, ground := Ground.phase }, { on := 1, ground := Ground.phase }, { on := 2, ground := Ground.phase }, { on := 3, ground := Ground.phase }, { on := 4, ground := Ground.phase }, { on := 5, ground := Ground.phase }, { on := 6, ground := Ground.phase }, { on := 7, ground := Ground.phase }, { on := 8, ground := Ground.phase }, { on := 9, ground := Ground.phase }, { on := 10, ground := Ground.phase }, { on := 11, ground := Ground.phase }], guard := none }) (d := 3) (v := .int .i64 bd) (w' := w10x) hF rfl rfl (by decide) (fun a' hA => wanted_none rfl) (fun a' hA => by have e31 := hA.get 31 rfl; have ec : ∀ v, a'.eval (.const v) = v := fun _ => rfl; clear hA; generalize a'.eval = ρ at *; simp [go_sem, ec, e31]; try rfl) ?_)
    clear hF
    intro hF
    refine ⟨fun h => absurd h (by decide), ?_⟩
    refine wpTill_done (by kernel_rfl) ?_ _
    subst ha0
    simp only [Act.put, List.setIfInBounds_toArray, List.set_cons_zero, List.set_cons_succ]
    have HBW := Lib.hid (HB1.out.trans ((HB.out.trans (hS.mono hz)).mono hz1))
    clear hF hS p0 p1 p2
    go_wp2_with fail
    go_ret2
    exact ⟨by obtain ⟨e1, e2⟩ := Prod.mk.inj HQ2.out; subst e1 e2; rfl, HBW.out⟩
   ·rw [hn] at HBD hq
    simp only [cond_true] at HBD hq
    have HQ2 := Lib.hid hq
    clear hq hn
    go_wp2_with fail
    refine (HBD.out _).mono ?_
    rintro e w4 ⟨rfl, hb4⟩
    have HB4 := Lib.hid (HB.out.trans (hb4.mono hz))
    clear hb4
    go_wp2_with fail
    go_roundw
    case rel => exact ⟨i + 1, by omega, by go_num, HQ2, HB4.out⟩
    case measure => simp [intOf]; omega
  ·have hq := HQ.out
   rw [List.drop_eq_nil_of_le (by omega)] at hq
   simp only [firstT] at hq
   have HQ2 := Lib.hid hq
   have HB := Lib.hid (HB1.out.trans (hbe.mono hz1))
   clear hbe hq HQ
   go_wp2_with fail
   go_ret2
   exact ⟨by obtain ⟨e1, e2⟩ := Prod.mk.inj HQ2.out; subst e1 e2; rfl, HB.out⟩
end Go.Proofs.YtkjgkchdkeggoaaGreatDoor

namespace Go.Proofs.YtkjgkchdkeggoaaGreatDoor
open Go.RowKit
set_option maxRecDepth 20000
set_option linter.unusedVariables false
set_option linter.unusedSimpArgs false

theorem mod_rng (k : Int) (m : Int) (hm : 0 < m) (hm2 : m < 1000) : ∃ c : Nat, (c : Int) < m ∧ (IntKind.i64.wrap (k.tmod m + m)).tmod m = (c : Int) := by
 have h1 := Int.tmod_lt_of_pos k hm
 have h2 : -m < k.tmod m := by
  have := Int.tmod_lt_of_pos (-k) hm
  rw [Int.neg_tmod] at this
  omega
 have h3 : IntKind.i64.wrap (k.tmod m + m) = k.tmod m + m := IntWalk.i64_in _ (by omega)
 rw [h3]
 have h4 : 0 ≤ k.tmod m + m := by omega
 rw [Int.tmod_eq_emod_of_nonneg h4]
 have h5 := Int.emod_nonneg (k.tmod m + m) (show m ≠ 0 by omega)
 have h6 := Int.emod_lt_of_pos (k.tmod m + m) hm
 exact ⟨((k.tmod m + m) % m).toNat, by omega, by omega⟩
end Go.Proofs.YtkjgkchdkeggoaaGreatDoor

namespace Go.Proofs.YtkjgkchdkeggoaaGreatDoor
open Go.RowKit
set_option maxRecDepth 20000
set_option linter.unusedVariables false
set_option linter.unusedSimpArgs false

theorem passN_stop32 (g : UInt8 → Bool) (l : List UInt8) (T : List UInt8) (h : g 32 = false) : passN (pureF g) () (l ++ 32 :: T) = passN (pureF g) () l := by
 by_cases hlt : passN (pureF g) () l < l.length
 ·exact passN_more _ _ _ _ hlt
 ·have := passN_le (pureF g) () l
  have e : passN (pureF g) () l = l.length := by omega
  rw [passN_pure_app g l _ e, e]
  simp [passN, pureF, h]
theorem headB_app32 (r T : List UInt8) (x : Int) (h : headB r x = false) (hx : eqB 32 x = false) : headB (r ++ 32 :: T) x = false := by
 cases r with
 | nil => exact hx
 | cons c r => exact h
/-- A token that is not bad, and is no blank, is the same with a blank behind it. -/
theorem tok_spaced (R T : List UInt8) (hR : R ≠ []) (hk : (tokN R).1 ≠ 3) (hb : (tokN R).1 ≠ 1) : tokN (R ++ 32 :: T) = tokN R := by
 cases R with
 | nil => exact absurd rfl hR
 | cons c r =>
  have key : tokN ((c :: r) ++ 32 :: T) = bif blankB c then (1, passN (pureF blankB) () ((c :: r) ++ 32 :: T))
    else bif eqB c 34 then quoteN (r ++ 32 :: T)
    else bif eqB c 40 && headB (r ++ 32 :: T) 42 then noteN ((c :: r) ++ 32 :: T)
    else bif restB c then (plainN (((c :: r) ++ 32 :: T).take (passN (pureF restB) () ((c :: r) ++ 32 :: T))), passN (pureF restB) () ((c :: r) ++ 32 :: T))
    else bif signB c then (plainN (((c :: r) ++ 32 :: T).take (passN (pureF signB) () ((c :: r) ++ 32 :: T))), passN (pureF signB) () ((c :: r) ++ 32 :: T))
    else (plainN (((c :: r) ++ 32 :: T).take 1), 1) := rfl
  have own : tokN (c :: r) = bif blankB c then (1, passN (pureF blankB) () (c :: r))
    else bif eqB c 34 then quoteN r
    else bif eqB c 40 && headB r 42 then noteN (c :: r)
    else bif restB c then (plainN ((c :: r).take (passN (pureF restB) () (c :: r))), passN (pureF restB) () (c :: r))
    else bif signB c then (plainN ((c :: r).take (passN (pureF signB) () (c :: r))), passN (pureF signB) () (c :: r))
    else (plainN ((c :: r).take 1), 1) := rfl
  rw [key]
  rw [own] at hk hb ⊢
  clear key own hR
  rw [passN_stop32 restB (c :: r) T (by decide), passN_stop32 signB (c :: r) T (by decide), take_app_le _ _ _ (passN_le _ _ _), take_app_le _ _ _ (passN_le _ _ _), take_app_le _ _ 1 (by simp)]
  cases h1 : blankB c
  ·cases h2 : eqB c 34
   ·cases h3 : (eqB c 40 && headB r 42)
    ·have h3' : (eqB c 40 && headB (r ++ 32 :: T) 42) = false := by
      cases h4 : eqB c 40
      ·rfl
      ·rw [h4, Bool.true_and] at h3; rw [headB_app32 _ _ _ h3 (by decide)]; rfl
     rw [h3']
     simp only [cond_false]
    ·have h3' : (eqB c 40 && headB (r ++ 32 :: T) 42) = true := by
      rw [Bool.and_eq_true] at h3 ⊢
      exact ⟨h3.1, headB_keep _ _ _ h3.2⟩
     rw [h3']
     simp only [h1, h2, h3, cond_false, cond_true] at hk hb ⊢
     unfold noteN at hk ⊢
     simp only at hk ⊢
     cases e : (passN nF (0, 0) (c :: r) == (c :: r).length)
     ·have hne : ¬ passN nF (0, 0) (c :: r) = (c :: r).length := by simpa using e
      have hle := passN_le nF (0, 0) (c :: r)
      have hm := passN_more nF (0, 0) (c :: r) (32 :: T) (by omega)
      rw [hm]
      have : (passN nF (0, 0) (c :: r) == (c :: r ++ 32 :: T).length) = false := by
       rw [beq_eq_false_iff_ne, List.length_append]; omega
      rw [this]
     ·rw [e] at hk; exact absurd rfl hk
   ·simp only [h1, h2, cond_false, cond_true] at hk hb ⊢
    unfold quoteN at hk ⊢
    simp only at hk ⊢
    cases e : headB (r.drop (passN qF false r)) 34
    ·rw [e] at hk; exact absurd rfl hk
    ·have hl := headB_len _ _ e
     rw [List.length_drop] at hl
     rw [passN_more qF false r (32 :: T) (by omega), List.drop_append_of_le_length (by omega), headB_keep _ _ _ e]
     rfl
  ·rw [h1] at hb; exact absurd rfl hb
/-- What is put between tokens. -/
abbrev blL : List UInt8 := [32, 40, 42, 32, 120, 32, 40, 42, 42, 41, 32, 42, 41, 10]
theorem note_bl (R : List UInt8) : tokN (40 :: 42 :: 32 :: 120 :: 32 :: 40 :: 42 :: 42 :: 41 :: 32 :: 42 :: 41 :: R) = (2, 12) := by
 have hp : passN nF (0, 0) (40 :: 42 :: 32 :: 120 :: 32 :: 40 :: 42 :: 42 :: 41 :: 32 :: 42 :: 41 :: R) = 11 := by
  simp [passN, nF, eqB]
 have e : tokN (40 :: 42 :: 32 :: 120 :: 32 :: 40 :: 42 :: 42 :: 41 :: 32 :: 42 :: 41 :: R) = noteN (40 :: 42 :: 32 :: 120 :: 32 :: 40 :: 42 :: 42 :: 41 :: 32 :: 42 :: 41 :: R) := rfl
 rw [e]
 unfold noteN
 simp only [hp, List.length_cons]
 have : (11 == R.length + 1 + 1 + 1 + 1 + 1 + 1 + 1 + 1 + 1 + 1 + 1 + 1) = false := by rw [beq_eq_false_iff_ne]; omega
 rw [this]; rfl
theorem says_bl (a : Nat) (R : List UInt8) : saysF a (blL ++ R) = saysF (a + 14) R := by
 have e1 : tokN (blL ++ R) = (1, 1) := by
  have : tokN (blL ++ R) = (1, passN (pureF blankB) () (blL ++ R)) := rfl
  rw [this]
  simp [passN, pureF, blankB, eqB]
 rw [saysF_at a (blL ++ R) (by simp), e1]
 have e2 : (blL ++ R).drop 1 = 40 :: 42 :: 32 :: 120 :: 32 :: 40 :: 42 :: 42 :: 41 :: 32 :: 42 :: 41 :: 10 :: R := rfl
 simp only [e2]
 rw [saysF_at (a + 1) _ (by simp), note_bl]
 simp only [List.drop_succ_cons, List.drop_zero]
 rw [saysF_at (a + 1 + 12) (10 :: R) (by simp), tok_line]
 simp only [List.drop_succ_cons]
 have := saysF_blanks (a + 14) R
 rw [show a + 14 + passN (pureF blankB) () R = a + 1 + 12 + (passN (pureF blankB) () R + 1) by omega] at this
 rw [this]
 rfl
/-- Tokens' kinds and bytes, with blanks between them, and at both ends. -/
def spL : List (Int × List UInt8) → List UInt8
 | [] => blL ++ blL
 | (_, x) :: r => blL ++ (x ++ spL r)
theorem spL_cons (r : List (Int × List UInt8)) : ∃ R, spL r = 32 :: R := by
 cases r with
 | nil => exact ⟨_, rfl⟩
 | cons p r => exact ⟨_, rfl⟩
theorem spL_length (l : List (Int × List UInt8)) : (spL l).length = 28 + (l.map fun p => 14 + p.2.length).sum := by
 induction l with
 | nil => rfl
 | cons p r ih =>
  obtain ⟨k, x⟩ := p
  simp only [spL, List.length_append, ih, List.map_cons, List.sum_cons]
  have : blL.length = 14 := rfl
  omega
def Own (p : Int × List UInt8) : Prop := p.2 ≠ [] ∧ tokN p.2 = (p.1, p.2.length) ∧ p.1 ≠ 3 ∧ p.1 ≠ 1 ∧ p.1 ≠ 2
def toksF : Nat → List (Int × List UInt8) → List Tok
 | _, [] => []
 | a, (k, x) :: r => ⟨k, a + 14, a + 14 + x.length⟩ :: toksF (a + 14 + x.length) r
theorem toksF_length (l : List (Int × List UInt8)) : ∀ a, (toksF a l).length = l.length := by
 induction l with
 | nil => intro a; rfl
 | cons p r ih => intro a; simp [toksF, ih]
theorem says_spL (l : List (Int × List UInt8)) (h : ∀ p ∈ l, Own p) : ∀ a, saysF a (spL l) = toksF a l := by
 induction l with
 | nil =>
  intro a
  show saysF a (blL ++ blL) = []
  rw [says_bl a blL]
  have := says_bl (a + 14) []
  rw [List.append_nil] at this
  rw [this]; rfl
 | cons p r ih =>
  intro a
  obtain ⟨k, x⟩ := p
  obtain ⟨h1, h2, h3, h4, h5⟩ := h (k, x) (by simp)
  simp only at h1 h2 h3 h4 h5
  obtain ⟨R, hR⟩ := spL_cons r
  simp only [spL, toksF]
  rw [says_bl]
  have ht : tokN (x ++ spL r) = (k, x.length) := by
   rw [hR, tok_spaced x R h1 (by rw [h2]; exact h3) (by rw [h2]; exact h4), h2]
  rw [saysF_at (a + 14) _ (by simp [h1]), ht]
  simp only [List.drop_left]
  rw [ih (fun p hp => h p (by simp [hp])) (a + 14 + x.length)]
  have e1 : (k == 1) = false := by simpa using h4
  have e2 : (k == 2) = false := by simpa using h5
  have : pickT saysB [⟨k, a + 14, a + 14 + x.length⟩] = [⟨k, a + 14, a + 14 + x.length⟩] := by simp only [pickT, saysB, e1, e2]; rfl
  rw [this]; rfl
theorem toksF_at (t : ByteArray) (l : List (Int × List UInt8)) : ∀ (P : List UInt8), t.data.toList = P ++ spL l → ∀ i (h : i < l.length) (h2 : i < (toksF P.length l).length), (toksF P.length l)[i].k = l[i].1 ∧ (t.extract (toksF P.length l)[i].a (toksF P.length l)[i].e).data.toList = l[i].2 := by
 induction l with
 | nil => intro P _ i h; simp at h
 | cons p r ih =>
  obtain ⟨k, x⟩ := p
  intro P hP i h h2
  cases i with
  | zero =>
   simp only [toksF, List.getElem_cons_zero, true_and]
   have e : t.data.toList = (P ++ blL) ++ (x ++ spL r) := by rw [hP]; simp [spL]
   have hl : (P ++ blL).length = P.length + 14 := by simp
   rw [ext_list, e, ← hl, List.take_length_add_append, List.drop_left, List.take_left]
  | succ i =>
   have e : t.data.toList = (P ++ blL ++ x) ++ spL r := by rw [hP]; simp [spL]
   have hl : (P ++ blL ++ x).length = P.length + 14 + x.length := by simp; omega
   have := ih (P ++ blL ++ x) e i (by simpa using h) (by rw [toksF_length]; simpa using h)
   simp only [hl] at this
   simpa only [toksF, List.getElem_cons_succ] using this
/-- The kinds and bytes of a text's tokens, but the end. -/
def itemsT (s : ByteArray) : List (Int × List UInt8) := (wordsI s).map fun T => (T.k, (s.extract T.a T.e).data.toList)
theorem tok_own (s : ByteArray) (T : Tok) (hT : T ∈ wordsI s) : tokN (s.extract T.a T.e).data.toList = (T.k, T.e - T.a) ∧ (s.extract T.a T.e).data.toList.length = T.e - T.a ∧ T.a < T.e := by
 obtain ⟨q1, q2, q3⟩ := (wordsI_in s).1 T hT
 have hm : T ∈ scanT s := by
  have : T ∈ wordsT s := by rw [words_end]; exact List.mem_append_left _ hT
  unfold wordsT at this
  exact mem_pick this
 obtain ⟨h1, h2⟩ := restT_mem s 0 (by omega) T hm
 have hlt : T.a < s.size := by omega
 have e := tokAt_in s T.a hlt
 rw [← h2] at e
 have hne : s.data.toList.drop T.a ≠ [] := by rw [drop_at s T.a hlt]; simp
 have ha := tok_again (s.data.toList.drop T.a) hne
 have ek : T.k = (tokN (s.data.toList.drop T.a)).1 := congrArg Tok.k e
 have ee : T.e = T.a + (tokN (s.data.toList.drop T.a)).2 := congrArg Tok.e e
 have hx : (s.extract T.a T.e).data.toList = (s.data.toList.drop T.a).take (tokN (s.data.toList.drop T.a)).2 := by
  conv => lhs; rw [ee]
  exact extract_drop s T.a _
 have hb := tokN_bound _ hne
 refine ⟨?_, ?_, q1⟩
 ·rw [hx, ha, ek]
  exact Prod.ext rfl (by simp only; omega)
 ·rw [hx, List.length_take, Nat.min_eq_left hb.2]; omega
theorem own_items (s : ByteArray) (h : (firstN s).2 = 0) : ∀ p ∈ itemsT s, Own p := by
 intro p hp
 unfold itemsT at hp
 obtain ⟨T, hT, rfl⟩ := List.mem_map.1 hp
 obtain ⟨h1, h2, h3⟩ := tok_own s T hT
 have hw : T ∈ wordsT s := by rw [words_end]; exact List.mem_append_left _ hT
 have hbad := first_good s (wordsT s) (by rw [← firstN_words]; exact h) T hw
 have hs : saysB T.k = true := by
  unfold wordsI at hT
  generalize scanF s.size 0 s.data.toList = L at hT
  induction L with
  | nil => cases hT
  | cons x r ih =>
   simp only [pickT] at hT
   cases hx : saysB x.k <;> rw [hx] at hT
   ·exact ih hT
   ·rcases List.mem_cons.1 hT with rfl | hT
    ·exact hx
    ·exact ih hT
 refine ⟨?_, ?_, ?_, ?_, ?_⟩
 ·intro e
  have := congrArg List.length e
  simp only [h2, List.length_nil] at this
  omega
 ·rw [h1, h2]
 ·unfold noBad at hbad; simpa using hbad
 ·unfold saysB at hs; simp at hs; exact hs.1
 ·unfold saysB at hs; simp at hs; exact hs.2
/-- The spaced text's words. -/
theorem words_spaced (s t : ByteArray) (ht : t.data.toList = spL (itemsT s)) (h : (firstN s).2 = 0) : wordsI t = toksF 0 (itemsT s) := by
 have e := says_spL (itemsT s) (own_items s h) 0
 rw [← ht] at e
 rw [← e]
 unfold wordsI saysF
 rw [data_len]
theorem sh_spaced {S1 S2 : Src} {s t : ByteArray} (h1 : S1.s = s) (h2 : S1.ts = wordsT s) (h3 : S2.s = t) (h4 : S2.ts = wordsT t) (ht : t.data.toList = spL (itemsT s)) (h : (firstN s).2 = 0) : Sh S1 S2 0 ∧ S2.ts.length = S1.ts.length := by
 have hw := words_spaced s t ht h
 have e1 := words_end s
 have e2 := words_end t
 rw [hw] at e2
 have hl : (toksF 0 (itemsT s)).length = (wordsI s).length := by rw [toksF_length]; simp [itemsT]
 have hL1 : (wordsT s).length = (wordsI s).length + 1 := by rw [e1]; simp
 have hL2 : (wordsT t).length = (wordsI s).length + 1 := by rw [e2]; simp [hl]
 have hat := toksF_at t (itemsT s) [] (by rw [ht]; rfl)
 have key : ∀ i, S2.kd i = S1.kd i ∧ S2.tx i = S1.tx i := by
  intro i
  unfold Src.kd Src.tx
  rw [h2, h4, h1, h3]
  rcases Nat.lt_or_ge i (wordsI s).length with hi | hi
  ·have g1 : (wordsT s)[i]? = some (wordsI s)[i] := by rw [e1, List.getElem?_append_left hi]; exact List.getElem?_eq_getElem hi
   have g2 : (wordsT t)[i]? = some ((toksF 0 (itemsT s))[i]'(by omega)) := by rw [e2, List.getElem?_append_left (by omega)]; exact List.getElem?_eq_getElem (by omega)
   rw [g1, g2]
   obtain ⟨a1, a2⟩ := hat i (by simp [itemsT, hi]) (by simp only [List.length_nil]; omega)
   simp only [List.length_nil] at a1 a2
   have e3 : (itemsT s)[i]'(by simp [itemsT, hi]) = ((wordsI s)[i].k, (s.extract (wordsI s)[i].a (wordsI s)[i].e).data.toList) := by simp [itemsT]
   rw [e3] at a1 a2
   exact ⟨a1, bytes_ext a2⟩
  ·rcases Nat.eq_or_lt_of_le hi with hi | hi
   ·subst hi
    have g1 : (wordsT s)[(wordsI s).length]? = some ⟨0, s.size, s.size⟩ := by rw [e1]; simp
    have g2 : (wordsT t)[(wordsI s).length]? = some ⟨0, t.size, t.size⟩ := by rw [e2, ← hl]; simp
    rw [g1, g2]
    refine ⟨rfl, bytes_ext ?_⟩
    simp only
    rw [ext_list, ext_list, List.drop_eq_nil_of_le (by rw [List.length_take]; omega), List.drop_eq_nil_of_le (by rw [List.length_take]; omega)]
   ·rw [List.getElem?_eq_none (by omega), List.getElem?_eq_none (by omega)]
    exact ⟨rfl, rfl⟩
 refine ⟨⟨fun i => (key i).1, fun i => (key i).2, ?_⟩, ?_⟩
 ·rw [h2, h4, hL1, hL2]; exact Nat.le_refl _
 ·rw [h2, h4, hL1, hL2]
theorem first_spaced (s t : ByteArray) (ht : t.data.toList = spL (itemsT s)) (h : (firstN s).2 = 0) : (firstN t).2 = 0 := by
 have hw := words_spaced s t ht h
 rw [firstN_words, words_end, hw]
 have hall : ∀ x ∈ toksF 0 (itemsT s), noBad x = true := by
  intro x hx
  obtain ⟨i, hi, rfl⟩ := List.getElem_of_mem hx
  have hi2 : i < (itemsT s).length := by rw [toksF_length] at hi; exact hi
  obtain ⟨a1, _⟩ := toksF_at t (itemsT s) [] (by rw [ht]; rfl) i hi2 hi
  simp only [List.length_nil] at a1
  unfold noBad
  rw [a1]
  have := (own_items s h _ (List.getElem_mem hi2)).2.2.1
  simpa using this
 rw [firstT_good t _ _ hall]
 rfl
end Go.Proofs.YtkjgkchdkeggoaaGreatDoor

namespace Go.Proofs.YtkjgkchdkeggoaaGreatDoor
open Go.RowKit
set_option maxRecDepth 20000
set_option linter.unusedVariables false
set_option linter.unusedSimpArgs false

set_option maxHeartbeats 1000000 in
theorem read_file (s : ByteArray) (hs : s.size ≤ 1000000) (w : World) (hk : Kw w) : Calls Tryz.prog 17 #[.string s, .int .i64 0] w fun e w' => Said3 s w fileS e w' := by
 have HW := Lib.hid (parse_file s hs (w.alloc boxZ) (hk.alloc _))
 have HB := Lib.hid (heap_alloc_new w boxZ)
 clear hk
 go_enter Tryz.func17, Tryz.ntmps17
 go_wp2_with fail
 refine HW.out.mono ?_
 intro e w2 hsd
 obtain ⟨k, m, f, t, np, nn, nc, kp, kn, kc, a, c, rfl⟩ := hsd.form
 have HX := Lib.hid ((hsd.1.block w.heap.size (by simp)).trans HB.out)
 have HS := Lib.hid hsd
 clear hsd HW HB
 have hcb := Lib.cell_of_heap HX.out
 have c0 := hcb 0
 have c1 := hcb 1
 have c2 := hcb 2
 have c3 := hcb 3
 have c4 := hcb 4
 have c5 := hcb 5
 simp only [List.getElem?_toArray, List.getElem?_cons_zero, List.getElem?_cons_succ] at c0 c1 c2 c3 c4 c5
 have f0 := cells_frozen HX.out 0
 have f1 := cells_frozen HX.out 1
 have f2 := cells_frozen HX.out 2
 have f3 := cells_frozen HX.out 3
 have f4 := cells_frozen HX.out 4
 have f5 := cells_frozen HX.out 5
 clear hcb
 go_wp2_with fail
 have HP := (six_set HX.out (.int .i64 k) (.int .i64 m) (.int .i64 f) (.int .i64 t) (.slice np nn nc) (.slice kp kn kc)).1
 have hcb := Lib.cell_of_heap HP
 have d0 := hcb 0
 have d1 := hcb 1
 have d2 := hcb 2
 have d3 := hcb 3
 have d4 := hcb 4
 have d5 := hcb 5
 simp only [List.getElem?_toArray, List.getElem?_cons_zero, List.getElem?_cons_succ] at d0 d1 d2 d3 d4 d5
 clear hcb
 refine bodyPost_ret (by simp [results, Tryz.results17, go_sem, d0, d1, d2, d3, d4, d5, Result.andThen]; try rfl) rfl ?_
 exact HS.out.moved (grown_put6 _ _ _ _ _ _ _ _ _ _ _ _)
set_option maxHeartbeats 1000000 in
theorem read_sig (s : ByteArray) (hs : s.size ≤ 1000000) (w : World) (hk : Kw w) : Calls Tryz.prog 17 #[.string s, .int .i64 4] w fun e w' => Said3 s w (partS .sig) e w' := by
 have HW := Lib.hid (parse_sig s hs (w.alloc boxZ) (hk.alloc _))
 have HB := Lib.hid (heap_alloc_new w boxZ)
 clear hk
 go_enter Tryz.func17, Tryz.ntmps17
 go_wp2_with fail
 refine HW.out.mono ?_
 intro e w2 hsd
 obtain ⟨k, m, f, t, np, nn, nc, kp, kn, kc, a, c, rfl⟩ := hsd.form
 have HX := Lib.hid ((hsd.1.block w.heap.size (by simp)).trans HB.out)
 have HS := Lib.hid hsd
 clear hsd HW HB
 have hcb := Lib.cell_of_heap HX.out
 have c0 := hcb 0
 have c1 := hcb 1
 have c2 := hcb 2
 have c3 := hcb 3
 have c4 := hcb 4
 have c5 := hcb 5
 simp only [List.getElem?_toArray, List.getElem?_cons_zero, List.getElem?_cons_succ] at c0 c1 c2 c3 c4 c5
 have f0 := cells_frozen HX.out 0
 have f1 := cells_frozen HX.out 1
 have f2 := cells_frozen HX.out 2
 have f3 := cells_frozen HX.out 3
 have f4 := cells_frozen HX.out 4
 have f5 := cells_frozen HX.out 5
 clear hcb
 go_wp2_with fail
 have HP := (six_set HX.out (.int .i64 k) (.int .i64 m) (.int .i64 f) (.int .i64 t) (.slice np nn nc) (.slice kp kn kc)).1
 have hcb := Lib.cell_of_heap HP
 have d0 := hcb 0
 have d1 := hcb 1
 have d2 := hcb 2
 have d3 := hcb 3
 have d4 := hcb 4
 have d5 := hcb 5
 simp only [List.getElem?_toArray, List.getElem?_cons_zero, List.getElem?_cons_succ] at d0 d1 d2 d3 d4 d5
 clear hcb
 refine bodyPost_ret (by simp [results, Tryz.results17, go_sem, d0, d1, d2, d3, d4, d5, Result.andThen]; try rfl) rfl ?_
 exact HS.out.moved (grown_put6 _ _ _ _ _ _ _ _ _ _ _ _)
/-- What a text is read as. -/
def asO (c : Nat) (S : Src) : Out Pb := match c with
 | 1 => partS .exp S
 | 2 => partS .pat S
 | 3 => partS .ty S
 | 4 => partS .sig S
 | _ => fileS S
theorem read_any (c : Nat) (hc : c < 5) (s : ByteArray) (hs : s.size ≤ 1000000) (w : World) (hk : Kw w) : Calls Tryz.prog 17 #[.string s, .int .i64 (c : Int)] w fun e w' => Said3 s w (asO c) e w' := by
 match c, hc with
 | 0, _ => exact read_file s hs w hk
 | 1, _ => exact read_exp s hs w hk
 | 2, _ => exact read_pat s hs w hk
 | 3, _ => exact read_ty s hs w hk
 | 4, _ => exact read_sig s hs w hk
mutual
theorem on_zero : (b : Pb) → b.on 0 = b
 | .mk a m f t ns ks => by
  have h := onL_zero ks
  simp only [Pb.on, h]
  simp
theorem onL_zero : (l : List Pb) → onL 0 l = l
 | [] => rfl
 | b :: r => by
  have h1 := on_zero b
  have h2 := onL_zero r
  simp only [onL, h1, h2]
end
theorem on_same {o : Out Pb} : o.on 0 (Pb.on 0) = o := by
 cases o <;> simp [Out.on, on_zero]
theorem file_on {S S' : Src} {k : Nat} (H : Sh S S' 0) : Rel 0 (Pb.on 0) (fileS S) (fileS S') := by
 have hF : fuel S ≤ fuel S' := by have := H.len; unfold fuel; omega
 unfold fileS fileO
 exact rel_bind (decs_on H hF (fun nt n => parts_on H (fuel S) (fuel S') hF nt 0 n) 2 0) (fun l m _ => rel_ok (by simp [node_on]) (by omega))
theorem as_on {S S' : Src} (H : Sh S S' 0) (c : Nat) (hnd : asO c S ≠ .dry) : asO c S' = asO c S := by
 have hF : fuel S ≤ fuel S' := by have := H.len; unfold fuel; omega
 have key : Rel 0 (Pb.on 0) (asO c S) (asO c S') := by
  unfold asO
  split
  ·exact parts_on H _ _ hF .exp 0 0
  ·exact parts_on H _ _ hF .pat 0 0
  ·exact parts_on H _ _ hF .ty 0 0
  ·exact parts_on H _ _ hF .sig 0 0
  ·exact file_on (k := 0) H
 rw [key hnd, on_same]
theorem whole_same {S S' : Src} (H : Sh S S' 0) (o : Out Pb) : wholeO S' o = wholeO S o := by
 unfold wholeO
 cases o with
 | ok b n =>
  simp only [Out.bind]
  have := H.kd n
  rw [Nat.add_zero] at this
  rw [this]
 | form n => rfl
 | deep n => rfl
 | dry => rfl
theorem as_fin {S : Src} (g : S.Good) (hp : 0 < S.ts.length) (c : Nat) : Inn.Fin S 0 0 (asO c S) := by
 unfold asO
 split
 ·exact (Inn.parts_fin g (fuel S) .exp 0 0 (by omega) hp trivial (by unfold fuel; omega)).le (by omega)
 ·exact (Inn.parts_fin g (fuel S) .pat 0 0 (by omega) hp trivial (by unfold fuel; omega)).le (by omega)
 ·exact (Inn.parts_fin g (fuel S) .ty 0 0 (by omega) hp trivial (by unfold fuel; omega)).le (by omega)
 ·exact (Inn.parts_fin g (fuel S) .sig 0 0 (by omega) hp trivial (by unfold fuel; omega)).le (by omega)
 ·exact Inn.fileO_fin g (F := fuel S) (Nat.le_refl _) hp
theorem as_wt {S : Src} (c : Nat) : Ret (asO c S) fun b m => b.wt ≤ 3 * m + 1 := by
 unfold asO
 split
 ·exact (parts_wt (S := S) (fuel S) .exp 0 0 trivial).mono fun b m h => by omega
 ·exact (parts_wt (S := S) (fuel S) .pat 0 0 trivial).mono fun b m h => by omega
 ·exact (parts_wt (S := S) (fuel S) .ty 0 0 trivial).mono fun b m h => by omega
 ·exact (parts_wt (S := S) (fuel S) .sig 0 0 trivial).mono fun b m h => by omega
 ·exact fileO_wt (S := S) (fuel S)
theorem whole_ok_inv {S : Src} {o : Out Pb} {x : Pb} {n : Nat} (h : wholeO S o = .ok x n) : o = .ok x n := by
 unfold wholeO at h
 cases o with
 | ok b k =>
  simp only [Out.bind] at h
  cases hz : (S.kd k == 0)
  ·rw [hz] at h; cases h
  ·rw [hz] at h; exact h
 | form k => cases h
 | deep k => cases h
 | dry => cases h
theorem whole_in {S : Src} {o : Out Pb} (h : Inn.Fin S 0 0 o) : (∀ n, wholeO S o = .form n → n < S.ts.length) ∧ (∀ n, wholeO S o = .deep n → n < S.ts.length) := by
 unfold wholeO
 cases o with
 | ok b k =>
  simp only [Out.bind]
  cases hz : (S.kd k == 0)
  ·exact ⟨fun n e => (by injection e with e; subst e; exact h.2), fun n e => (by cases e)⟩
  ·exact ⟨fun n e => (by cases e), fun n e => (by cases e)⟩
 | form k => exact ⟨fun n e => (by injection e with e; subst e; exact h), fun n e => (by cases e)⟩
 | deep k => exact ⟨fun n e => (by cases e), fun n e => (by injection e with e; subst e; exact h)⟩
 | dry => exact absurd h id
/-- A text and the same one with something between its tokens: how both are read. -/
theorem said_spaced {s t : ByteArray} (c : Nat) (ht : t.data.toList = spL (itemsT s)) (h0 : (firstN s).2 = 0) {w1 w1' w2 w2' : World} {e1 e2 : Ending} (h1 : Said3 s w1 (asO c) e1 w1') (h2 : Said3 t w2 (asO c) e2 w2') :
  (∃ x v1 v2, e1 = .returned (.tuple #[v1, .int .i64 0, .int .i64 0]) ∧ e2 = .returned (.tuple #[v2, .int .i64 0, .int .i64 0]) ∧ RB w1 x v1 w1' ∧ RB w2 x v2 w2' ∧ x.wt ≤ 3 * s.size + 4) ∨
  (∃ (n : Nat) (k : Int) (g1 : n < (wordsT s).length) (g2 : n < (wordsT t).length), k ≠ 0 ∧ e1 = .returned (.tuple #[zeroV, .int .i64 ((wordsT s)[n].a : Int), .int .i64 k]) ∧ e2 = .returned (.tuple #[zeroV, .int .i64 ((wordsT t)[n].a : Int), .int .i64 k])) := by
 obtain ⟨_, ⟨q, _⟩ | ⟨_, S1, s1, t1, g1, hc1⟩⟩ := h1
 ·exact absurd h0 q
 obtain ⟨_, ⟨q, _⟩ | ⟨_, S2, s2, t2, g2, hc2⟩⟩ := h2
 ·exact absurd (first_spaced s t ht h0) q
 obtain ⟨H, hl⟩ := sh_spaced s1 t1 s2 t2 ht h0
 have hp1 := pos_of S1 (by rw [s1]; exact t1)
 have hfin := as_fin g1 hp1 c
 have hnd : asO c S1 ≠ .dry := by
  intro e
  rw [e] at hfin
  exact hfin
 have hsame : wholeO S2 (asO c S2) = wholeO S1 (asO c S1) := by rw [as_on H c hnd, whole_same H]
 have hin := whole_in hfin
 have hlen : (wordsT s).length ≤ s.size + 1 := by
  rw [words_end, List.length_append, List.length_singleton]
  have := (wordsI_in s).2
  omega
 rcases hc1 with ⟨x, n, v1, o1, e1', r1⟩ | ⟨n, o1, e1'⟩ | ⟨n, o1, e1'⟩
 ·rcases hc2 with ⟨x2, n2, v2, o2, e2', r2⟩ | ⟨n2, o2, _⟩ | ⟨n2, o2, _⟩
  ·rw [hsame, o1] at o2
   injection o2 with o2 _
   subst o2
   have ho := whole_ok_inv o1
   have hw := as_wt c x n ho
   rw [ho] at hfin
   have hn : n < S1.ts.length := hfin.2
   rw [t1] at hn
   exact .inl ⟨x, v1, v2, e1', e2', r1, r2, by omega⟩
  ·rw [hsame, o1] at o2; cases o2
  ·rw [hsame, o1] at o2; cases o2
 ·rcases hc2 with ⟨x2, n2, v2, o2, _, _⟩ | ⟨n2, o2, e2'⟩ | ⟨n2, o2, _⟩
  ·rw [hsame, o1] at o2; cases o2
  ·rw [hsame, o1] at o2
   injection o2 with o2
   subst o2
   have hn1 := hin.1 n o1
   have hn2 : n < S2.ts.length := by omega
   rw [S1.pl_at hn1] at e1'
   rw [S2.pl_at hn2] at e2'
   simp only [t1, t2] at e1' e2' hn1 hn2
   exact .inr ⟨n, 9, hn1, hn2, by decide, e1', e2'⟩
  ·rw [hsame, o1] at o2; cases o2
 ·rcases hc2 with ⟨x2, n2, v2, o2, _, _⟩ | ⟨n2, o2, _⟩ | ⟨n2, o2, e2'⟩
  ·rw [hsame, o1] at o2; cases o2
  ·rw [hsame, o1] at o2; cases o2
  ·rw [hsame, o1] at o2
   injection o2 with o2
   subst o2
   have hn1 := hin.2 n o1
   have hn2 : n < S2.ts.length := by omega
   rw [S1.pl_at hn1] at e1'
   rw [S2.pl_at hn2] at e2'
   simp only [t1, t2] at e1' e2' hn1 hn2
   exact .inr ⟨n, 6, hn1, hn2, by decide, e1', e2'⟩
/-- What has been put together of these tokens. -/
def outL (s : ByteArray) : List Tok → List UInt8
 | [] => []
 | T :: r => (s.extract T.a T.e).data.toList ++ blL ++ outL s r
theorem outL_snoc (s : ByteArray) (l : List Tok) (T : Tok) : outL s (l ++ [T]) = outL s l ++ (s.extract T.a T.e).data.toList ++ blL := by
 induction l with
 | nil => simp [outL]
 | cons x r ih => simp [outL, ih]
theorem outL_sp (s : ByteArray) : blL ++ outL s (wordsT s) = spL (itemsT s) := by
 have hz : (s.extract s.size s.size).data.toList = [] := by
  rw [ext_list, List.drop_eq_nil_of_le (by rw [List.length_take]; omega)]
 have e1 := words_end s
 rw [e1]
 unfold itemsT
 generalize wordsI s = L
 induction L with
 | nil => simp [outL, hz, spL]
 | cons x r ih => simp only [List.cons_append, outL, List.map_cons, spL, ← ih, List.append_assoc]
theorem outL_len (s : ByteArray) (l : List Tok) (h : ∀ T ∈ l, (s.extract T.a T.e).data.toList.length ≤ s.size) : (outL s l).length ≤ l.length * (s.size + 14) := by
 induction l with
 | nil => simp [outL]
 | cons x r ih =>
  have h1 := h x (by simp)
  have h2 := ih (fun T hT => h T (by simp [hT]))
  have h3 : blL.length = 14 := rfl
  simp only [outL, List.length_append, List.length_cons, h3]
  rw [Nat.add_mul]
  omega
set_option maxHeartbeats 2000000 in
theorem spaced_any (s : ByteArray) (hs : s.size ≤ 1500) (w : World) :
  Calls Tryz.prog 16 #[.string s, .string ⟨#[32, 40, 42, 32, 120, 32, 40, 42, 42, 41, 32, 42, 41, 10]⟩] w fun e w' => ∃ t : ByteArray, e = .returned (.string t) ∧ t.data.toList = spL (itemsT s) ∧ Below w.heap.size w w' := by
 obtain ⟨bl, hbl⟩ : ∃ bl : ByteArray, bl = ⟨#[32, 40, 42, 32, 120, 32, 40, 42, 42, 41, 32, 42, 41, 10]⟩ := ⟨_, rfl⟩
 rw [← hbl]
 have HBL : Hid (bl.data.toList = blL) := Lib.hid (by rw [hbl])
 have hbs : bl.size = 14 := by rw [hbl]; rfl
 have HD := Lib.hid (dwords_any s (by omega) w)
 have HOUT := Lib.hid (outL_sp s)
 have hwl : 0 < (wordsT s).length ∧ (wordsT s).length ≤ 1501 := by
  rw [words_end, List.length_append, List.length_singleton]
  have := (wordsI_in s).2
  omega
 have HIN : Hid (∀ T ∈ wordsT s, T.a ≤ T.e ∧ T.e ≤ s.size) := Lib.hid fun T hT => by
  rw [words_end] at hT
  rcases List.mem_append.1 hT with hT | hT
  ·have := (wordsI_in s).1 T hT; exact ⟨by omega, this.2.1⟩
  ·obtain rfl := List.mem_singleton.1 hT; exact ⟨Nat.le_refl _, Nat.le_refl _⟩
 generalize wordsT s = L at *
 generalize spL (itemsT s) = R at *
 clear hbl
 have HLN : Hid (∀ i, i ≤ L.length → (outL s (L.take i)).length ≤ 1501 * 1514) := Lib.hid fun i hi => by
  have h := outL_len s (L.take i) (fun T hT => by
   obtain ⟨h1, h2⟩ := HIN.out T (List.mem_of_mem_take hT)
   rw [data_len]; simp; omega)
  rw [List.length_take, Nat.min_eq_left hi] at h
  exact Nat.le_trans h (Nat.mul_le_mul (by omega) (by omega))
 go_enter Tryz.func16, Tryz.ntmps16
 go_wp2_with fail
 refine HD.out.mono ?_
 rintro e w1 ⟨v1, rfl, hto, hb1⟩
 obtain ⟨g, c, rfl, hc, hm, hg, hcells⟩ := hto.open hwl.1
 have HC := Lib.hid hcells
 have HB1 := Lib.hid hb1
 have hz1 := hb1.size
 clear hto hcells HD hb1
 go_wp2_with fail
 go_loopw [5, 12] (fun ov iv wr => ∃ (i : Nat) (o : ByteArray), i ≤ L.length ∧ iv = .int .i64 i ∧ ov = .string o ∧ Hid (o.data.toList = blL ++ outL s (L.take i)) ∧ Below w1.heap.size w1 wr) (fun _ iv _ => L.length - (intOf iv).toNat)
 case atStart => exact ⟨0, bl, by omega, rfl, rfl, Lib.hid (by rw [HBL.out]; rfl), Below.refl _ _⟩
 case round =>
  obtain ⟨i, o, hi, rfl, rfl, HO, hbe⟩ := hrel
  have hz := hbe.size
  have hos : o.size ≤ 3000000 := by
   have h1 := HLN.out i hi
   rw [← data_len, HO.out, List.length_append]
   have : blL.length = 14 := rfl
   omega
  by_cases hlt : i < L.length
  ·obtain ⟨q0, q1, q2⟩ := (HC.out.step hg hbe) i hlt
   obtain ⟨h1, h2⟩ := HIN.out _ (List.getElem_mem hlt)
   have hT : outL s (L.take (i + 1)) = outL s (L.take i) ++ (s.extract L[i].a L[i].e).data.toList ++ blL := by rw [List.take_succ_eq_append_getElem hlt, outL_snoc]
   have HT := Lib.hid hT
   have hsl := slice_to s L[i].a L[i].e h1 h2
   have hexs : (s.extract L[i].a L[i].e).size ≤ 1500 := by simp; omega
   have hr1 : (0 : Int) ≤ (i : Int) := by omega
   have hr2 : (i : Int) < (L.length : Int) := by omega
   have HB := Lib.hid hbe
   have HZA := Lib.hid (HB.out.alloc hz (.cells #[.int .i64 L[i].k, .int .i64 (L[i].a : Int), .int .i64 (L[i].e : Int)] 39))
   clear hbe hT
   generalize L[i] = T at *
   obtain ⟨tk, ta, te⟩ := T
   simp only at q0 q1 q2 hsl HT h1 h2 hexs HZA
   generalize s.extract ta te = ex at *
   have hcc : (o ++ ex).size ≤ 4000000 := by simp; omega
   have hcc2 : (o ++ ex ++ bl).size ≤ 5000000 := by simp; omega
   go_wp2_with fail
   go_roundw
   case rel => exact ⟨i + 1, o ++ ex ++ bl, by omega, by go_num, rfl, Lib.hid (by rw [HT.out]; simp [HO.out, HBL.out]), HZA.out⟩
   case measure => simp [intOf]; omega
  ·have HTL := Lib.hid (List.take_of_length_le (l := L) (i := i) (by omega))
   have HB := Lib.hid (HB1.out.trans (hbe.mono hz1))
   clear hbe
   go_wp2_with fail
   go_ret
   exact ⟨o, rfl, by rw [HO.out, HTL.out, HOUT.out], HB.out⟩
end Go.Proofs.YtkjgkchdkeggoaaGreatDoor

namespace Go.Proofs.YtkjgkchdkeggoaaGreatDoor
open Go.RowKit
set_option maxRecDepth 20000
set_option linter.unusedVariables false
set_option linter.unusedSimpArgs false

set_option maxHeartbeats 2000000 in
theorem blanks_long (s : ByteArray) (kd : Int) (w : World) (hk : Kw w) (h : 1500 < s.size) : Calls Tryz.prog 4 #[.string s, .int .i64 kd] w fun e w' => e = .returned (.bool true) ∧ Below w.heap.size w w' := by
 have HL := Lib.hid (alive_any w hk)
 go_enter Tryz.func4, Tryz.ntmps4
 go_wp2_with (go_at_call 7; refine HL.out.mono ?_; rintro e w1 ⟨rfl, hb⟩; have HB := Lib.hid hb; clear hb)
 go_ret
 exact ⟨rfl, HB.out⟩
/-- An empty branch. -/
def br0 : Br := .mk ⟨0, 0, 0, 0, none, 0, 0, [], none, 0, 0⟩ []
theorem br0_lies (w : World) : br0.Lies w := by
 unfold br0
 rw [lies_iff]
 exact ⟨⟨rfl, .inl rfl⟩, ⟨rfl, .inl rfl⟩, fun x hx => by cases hx⟩
theorem same_zero (w : World) : Calls Tryz.prog 10 #[zeroV, zeroV] w fun e w' => e = .returned (.bool true) ∧ Below w.heap.size w w' := by
 have h := refSame_any br0 br0 w (br0_lies w) (br0_lies w) (by unfold br0; simp [Br.Few, FewAll])
 rw [same_pb br0 br0 rfl] at h
 exact h
def lenT (l : List Tok) : Nat := (l.map fun T => T.e - T.a).sum
theorem lenT_scan : ∀ (n a : Nat) (l : List UInt8), lenT (scanF n a l) ≤ l.length := by
 intro n
 induction n with
 | zero => intro a l; simp [scanF, lenT]
 | succ n ih =>
  intro a l
  cases l with
  | nil => simp [scanF, lenT]
  | cons c r =>
   have hb := tokN_bound (c :: r) (by simp)
   have h := ih (a + (tokN (c :: r)).2) ((c :: r).drop (tokN (c :: r)).2)
   rw [List.length_drop] at h
   simp only [scanF, List.isEmpty_cons, cond_false, lenT, List.map_cons, List.sum_cons] at h ⊢
   omega
theorem lenT_pick (ask : Int → Bool) (l : List Tok) : lenT (pickT ask l) ≤ lenT l := by
 induction l with
 | nil => simp [pickT]
 | cons x r ih =>
  simp only [pickT, lenT, List.map_cons, List.sum_cons] at ih ⊢
  cases ask x.k <;> simp at ih ⊢ <;> omega
theorem sp_size {s t : ByteArray} (hs : s.size ≤ 1500) (ht : t.data.toList = spL (itemsT s)) : t.size ≤ 100000 := by
 have h1 : lenT (wordsI s) ≤ s.size := by
  have h2 := lenT_scan s.size 0 s.data.toList
  rw [data_len] at h2
  exact Nat.le_trans (lenT_pick _ _) h2
 have h3 := (wordsI_in s).2
 have h4 : ((itemsT s).map fun p => 14 + p.2.length).sum = 14 * (wordsI s).length + lenT (wordsI s) := by
  have hall : ∀ T ∈ wordsI s, (s.extract T.a T.e).data.toList.length = T.e - T.a := fun T hT => (tok_own s T hT).2.1
  unfold itemsT lenT
  generalize wordsI s = l at *
  clear h1 h3
  induction l with
  | nil => rfl
  | cons x r ih =>
   have h5 := hall x (by simp)
   have h6 := ih (fun T hT => hall T (by simp [hT]))
   simp only [List.map_cons, List.sum_cons, List.length_cons, h5] at h6 ⊢
   omega
 rw [← data_len, ht, spL_length, h4]
 omega

set_option maxHeartbeats 4000000 in
theorem blanks_bad (s : ByteArray) (kd : Int) (w : World) (hk : Kw w) (hs : s.size ≤ 1500) (h : (firstN s).2 ≠ 0) : Calls Tryz.prog 4 #[.string s, .int .i64 kd] w fun e w' => e = .returned (.bool true) ∧ Below w.heap.size w w' := by
 have HF := Lib.hid (dfirst_any s (by omega) w)
 have HK := Lib.hid hk
 generalize firstN s = fn at *
 obtain ⟨fp, fq⟩ := fn
 simp only at h HF
 have hne : (fq != 0) = true := by simpa using h
 clear hk h
 go_enter Tryz.func4, Tryz.ntmps4
 go_wp2_with fail
 refine HF.out.mono ?_
 rintro e w1 ⟨rfl, hb1⟩
 have HL := Lib.hid (alive_any w1 (HK.out.step hb1))
 have HB1 := Lib.hid hb1
 clear hb1
 go_wp2_with (go_at_call 7; refine HL.out.mono ?_; rintro e w2 ⟨rfl, hb2⟩; have HB := Lib.hid (HB1.out.trans (hb2.mono HB1.out.size)); clear hb2)
 go_ret
 exact ⟨rfl, HB.out⟩

set_option maxHeartbeats 4000000 in
theorem blanks_any (s : ByteArray) (kd : Int) (w : World) (hk : Kw w) (hs : s.size ≤ 1500) (h0 : (firstN s).2 = 0) : Calls Tryz.prog 4 #[.string s, .int .i64 kd] w fun e w' => e = .returned (.bool true) ∧ Below w.heap.size w w' := by
 obtain ⟨c, hc1, hc2⟩ := mod_rng kd 5 (by omega) (by omega)
 simp only [IntWalk.i64_left] at hc2
 have HC := Lib.hid (show c < 5 by omega)
 clear hc1
 have HF := Lib.hid (dfirst_any s (by omega) w)
 have HK := Lib.hid hk
 have HZ := Lib.hid h0
 rw [h0] at HF
 obtain ⟨fp, hfp⟩ : ∃ fp, fp = (firstN s).1 := ⟨_, rfl⟩
 rw [← hfp] at HF
 clear hk h0 hfp
 go_enter Tryz.func4, Tryz.ntmps4
 go_wp2_with fail
 refine HF.out.mono ?_
 rintro e w0 ⟨rfl, hb0⟩
 have HB0 := Lib.hid hb0
 have HSP := Lib.hid (spaced_any s hs w0)
 clear hb0 HF
 go_wp2_with fail
 refine HSP.out.mono ?_
 rintro e wa ⟨t, rfl, ht, hba⟩
 have HBa := Lib.hid (HB0.out.trans (hba.mono HB0.out.size))
 have HKa := Lib.hid (HK.out.step HBa.out)
 have hts := sp_size hs ht
 have HT := Lib.hid ht
 have H1 := Lib.hid (read_any c HC.out s (by omega) wa HKa.out)
 clear hba ht HSP HB0 HK
 go_wp2_with fail
 refine H1.out.mono ?_
 intro e w1 hsd
 obtain ⟨k1, m1, f1, t1, np1, nn1, nc1, kp1, kn1, kc1, a1, c1, rfl⟩ := hsd.form
 have hb := hsd.1
 have hbA := (Below.refl w1.heap.size w1).alloc (Nat.le_refl _) (.cells #[.int .i64 k1, .int .i64 m1, .int .i64 f1, .int .i64 t1, .slice np1 nn1 nc1, .slice kp1 kn1 kc1] 26)
 have hbB := hb.trans (hbA.mono hb.size)
 have HS1 := Lib.hid hsd
 have HK1 := Lib.hid (HKa.out.step hbB)
 have HB1 := Lib.hid (HBa.out.trans (hbB.mono HBa.out.size))
 have HX1 := Lib.hid (heap_alloc_new w1 (.cells #[.int .i64 k1, .int .i64 m1, .int .i64 f1, .int .i64 t1, .slice np1 nn1 nc1, .slice kp1 kn1 kc1] 26))
 have HA1 := Lib.hid hbA
 have HZ1 : Hid (w1.heap.size < (w1.alloc (.cells #[.int .i64 k1, .int .i64 m1, .int .i64 f1, .int .i64 t1, .slice np1 nn1 nc1, .slice kp1 kn1 kc1] 26)).heap.size) := Lib.hid (by simp)
 have H2 := Lib.hid (read_any c HC.out t (by omega) _ HK1.out)
 clear hsd hb hbA hbB HKa HBa H1
 go_wp2_with fail
 generalize hgp : w1.heap.size = p1 at *
 have HG1 := Lib.hid hgp
 clear hgp
 generalize w1.alloc (.cells #[.int .i64 k1, .int .i64 m1, .int .i64 f1, .int .i64 t1, .slice np1 nn1 nc1, .slice kp1 kn1 kc1] 26) = A1 at *
 refine H2.out.mono ?_
 intro e w2 hsd
 obtain ⟨k2, m2, f2, t2, np2, nn2, nc2, kp2, kn2, kc2, a2, c2, rfl⟩ := hsd.form
 have hb := hsd.1
 have hbA := (Below.refl w2.heap.size w2).alloc (Nat.le_refl _) (.cells #[.int .i64 k2, .int .i64 m2, .int .i64 f2, .int .i64 t2, .slice np2 nn2 nc2, .slice kp2 kn2 kc2] 26)
 have hbB := hb.trans (hbA.mono hb.size)
 have HS2 := Lib.hid hsd
 have HK2 := Lib.hid (HK1.out.step hbB)
 have HB2 := Lib.hid (HB1.out.trans (hbB.mono HB1.out.size))
 have HA2 := Lib.hid hbA
 have hx1 := (hb.block p1 HZ1.out).trans HX1.out
 have hp12 : p1 < w2.heap.size := Nat.lt_of_lt_of_le HZ1.out hb.size
 have HA1' := Lib.hid (HA1.out.trans (hb.mono (Nat.le_of_lt HZ1.out)))
 clear HA1
 have HA1 := HA1'
 clear HA1' hb hbB hsd HK1 HB1 H2 hbA HX1
 have q1 := Lib.cell_of_heap hx1
 have r0 := q1 0
 have r1 := q1 1
 have r2 := q1 2
 have r3 := q1 3
 have r4 := q1 4
 have r5 := q1 5
 simp only [List.getElem?_toArray, List.getElem?_cons_zero, List.getElem?_cons_succ] at r0 r1 r2 r3 r4 r5
 have HX1 := Lib.hid hx1
 clear q1 hx1
 have hcase := said_spaced c HT.out HZ.out HS1.out HS2.out
 clear HS1 HS2
 rcases hcase with ⟨x, v1, v2, he1, he2, hr1, hr2, hwt⟩ | ⟨n, k, g1, g2, hk0, he1, he2⟩
 ·simp only [Ending.returned.injEq, Value.tuple.injEq, Array.mk.injEq, List.cons.injEq, Value.int.injEq, and_true, true_and] at he1 he2
  obtain ⟨h1, rfl, rfl⟩ := he1
  obtain ⟨h2, rfl, rfl⟩ := he2
  subst h1 h2
  obtain ⟨y1, hv1, hl1, _, hp1⟩ := hr1
  obtain ⟨y2, hv2, hl2, _, hp2⟩ := hr2
  have bA1 : Below w1.heap.size w1 w2 := by have := HA1.out; rw [← HG1.out] at this; exact this
  have hfew := few_of_wt y1 (by rw [hp1]; omega)
  have HS := Lib.hid (fun W (hW : Below w2.heap.size w2 W) => by
   have := refSame_any y1 y2 W ((hl1.step _ bA1).step _ hW) (hl2.step _ hW) hfew
   rw [same_pb y1 y2 (hp1.trans hp2.symm), ← hv1, ← hv2] at this
   exact this)
  clear hv1 hv2 hl1 hl2 hp1 hp2 bA1 hfew hwt
  go_wp2_with (go_at_call 9; refine (no_any _ _).mono ?_; rintro e w' ⟨rfl, rfl⟩)
  refine (HS.out _ HA2.out).mono ?_
  rintro e w3 ⟨rfl, hb3⟩
  have HLV := Lib.hid (alive_any w3 (HK2.out.step hb3))
  have HB3 := Lib.hid (HB2.out.trans (hb3.mono HB2.out.size))
  clear hb3
  go_wp2_with (first | (go_at_call 9; refine (no_any _ _).mono ?_; rintro e w' ⟨rfl, rfl⟩) | (go_at_call 7; refine HLV.out.mono ?_; rintro e w6 ⟨rfl, hb6⟩; have HB6 := Lib.hid (HB3.out.trans (hb6.mono HB3.out.size)); clear hb6))
  go_ret
  exact ⟨rfl, HB6.out⟩
 ·simp only [Ending.returned.injEq, Value.tuple.injEq, Array.mk.injEq, List.cons.injEq, Value.int.injEq, Value.agg.injEq, Value.slice.injEq, and_true, true_and] at he1 he2
  obtain ⟨⟨rfl, rfl, rfl, rfl, ⟨rfl, rfl, rfl⟩, rfl, rfl, rfl⟩, rfl, hk1⟩ := he1
  obtain ⟨⟨rfl, rfl, rfl, rfl, ⟨rfl, rfl, rfl⟩, rfl, rfl, rfl⟩, rfl, hk2⟩ := he2
  subst hk1 hk2
  have hkz : (c2 == 0) = false := by simpa using hk0
  have hkz2 : ¬ c2 = 0 := hk0
  have HSZ := Lib.hid (same_zero (w2.alloc (.cells #[.int .i64 0, .int .i64 0, .int .i64 0, .int .i64 0, .slice none 0 0, .slice none 0 0] 26)))
  have HD1 := Lib.hid (fun W => dwords_any s (by omega) W)
  have HD2 := Lib.hid (fun W => dwords_any t (by omega) W)
  have hl1 : (wordsT s).length ≤ 1501 := by
   rw [words_end, List.length_append, List.length_singleton]
   have := (wordsI_in s).2
   omega
  generalize wordsT s = L1 at *
  generalize wordsT t = L2 at *
  obtain ⟨pa, hpa⟩ : ∃ pa, pa = L1[n].a := ⟨_, rfl⟩
  obtain ⟨pb, hpb⟩ : ∃ pb, pb = L2[n].a := ⟨_, rfl⟩
  rw [← hpa, ← hpb]
  have HPA := Lib.hid hpa
  have HPB := Lib.hid hpb
  clear hpa hpb
  go_wp2_with (first | (go_at_call 9; refine (no_any _ _).mono ?_; rintro e w' ⟨rfl, rfl⟩))
  refine HSZ.out.mono ?_
  rintro e w3 ⟨rfl, hb3⟩
  have HB3 := Lib.hid (HB2.out.trans (hb3.mono HB2.out.size))
  have HK3 := Lib.hid (HK2.out.step hb3)
  clear hb3 HSZ r0 r1 r2 r3 r4 r5
  go_wp2_with (first | (go_at_call 9; refine (no_any _ _).mono ?_; rintro e w' ⟨rfl, rfl⟩))
  refine (HD1.out _).mono ?_
  rintro e w4 ⟨va, rfl, hta, hb4⟩
  obtain ⟨ga, ca, rfl, hca, hma, hga, hcella⟩ := hta.open (by omega)
  have HB4 := Lib.hid (HB3.out.trans (hb4.mono HB3.out.size))
  have HK4 := Lib.hid (HK3.out.step hb4)
  have HCa := Lib.hid hcella
  clear hb4 HD1 hta hcella
  go_wp2_with fail
  refine (HD2.out _).mono ?_
  rintro e w5 ⟨vb, rfl, htb, hb5⟩
  obtain ⟨gb, cb, rfl, hcb, hmb, hgb, hcellb⟩ := htb.open (by omega)
  have HB5 := Lib.hid (HB4.out.trans (hb5.mono HB4.out.size))
  have HK5 := Lib.hid (HK4.out.step hb5)
  have HCa5 := Lib.hid (HCa.out.step hga hb5)
  have hga5 : ga < w5.heap.size := Nat.lt_of_lt_of_le hga hb5.size
  have HCb := Lib.hid hcellb
  clear hb5 HD2 htb hcellb HCa hga
  go_wp2_with fail
  go_loopw [78] (fun iv wr => ∃ i : Nat, i ≤ n ∧ iv = .int .i64 i ∧ Below w5.heap.size w5 wr) (fun iv _ => n + 1 - (intOf iv).toNat)
  case atStart => exact ⟨0, by omega, rfl, Below.refl _ _⟩
  case round =>
  obtain ⟨i, hi, rfl, hbe⟩ := hrel
  have hi1 : i < L1.length := by omega
  have hi2 : i < L2.length := by omega
  obtain ⟨x0, x1, x2⟩ := (HCa5.out.step hga5 hbe) i hi1
  obtain ⟨y0, y1, y2⟩ := (HCb.out.step hgb hbe) i hi2
  have hr1 : (0 : Int) ≤ (i : Int) := by omega
  have hr2 : (i : Int) < (L1.length : Int) := by omega
  have hr3 : (i : Int) < (L2.length : Int) := by omega
  have HLV := Lib.hid (alive_any wr (HK5.out.step hbe))
  have HBZ := Lib.hid (HB5.out.trans (hbe.mono HB5.out.size))
  have HBE := Lib.hid hbe
  have hEnd : Hid ((i = n → (L1[i].a : Int) = (pa : Int) ∧ (L2[i].a : Int) = (pb : Int))) := Lib.hid fun e => by subst e; exact ⟨by rw [HPA.out], by rw [HPB.out]⟩
  clear hbe x0 x2 y0 y2
  generalize (L1[i].a : Int) = xa at *
  generalize (L2[i].a : Int) = xb at *
  cases q1 : (xa == (pa : Int))
  ·have hlt : i < n := by
    rcases Nat.lt_or_ge i n with h | h
    ·exact h
    ·have := (hEnd.out (by omega)).1
     rw [this] at q1; simp at q1
   go_wp2_with fail
   go_roundw
   case rel => exact ⟨i + 1, by omega, by go_num, HBE.out⟩
   case measure => simp [intOf]; omega
  ·cases q2 : (xb == (pb : Int))
   ·have hlt : i < n := by
     rcases Nat.lt_or_ge i n with h | h
     ·exact h
     ·have := (hEnd.out (by omega)).2
      rw [this] at q2; simp at q2
    go_wp2_with fail
    go_roundw
    case rel => exact ⟨i + 1, by omega, by go_num, HBE.out⟩
    case measure => simp [intOf]; omega
   ·go_wp2_with (go_at_call 7; refine HLV.out.mono ?_; rintro e w6 ⟨rfl, hb6⟩; have HB6 := Lib.hid (HBZ.out.trans (hb6.mono HBZ.out.size)); clear hb6)
    go_ret
    exact ⟨by first | rfl | trivial, HB6.out⟩
end Go.Proofs.YtkjgkchdkeggoaaGreatDoor

namespace Go.Proofs.YtkjgkchdkeggoaaGreatDoor
open Go.RowKit
set_option linter.unusedVariables false

theorem parseBlanks_walk {p q : Prop} (s : ByteArray) (kd : Int) (W : World) (hp : p) (hq : q) (hkw : Kw W) : Calls Tryz.prog 4 #[.string s, .int .i64 kd] W fun e w' => e = .returned (.bool true) ∧ Below W.heap.size W w' := by
 rcases Nat.lt_or_ge 1500 s.size with h | h
 ·exact blanks_long s kd W hkw h
 ·by_cases h0 : (firstN s).2 = 0
  ·exact blanks_any s kd W hkw h h0
  ·exact blanks_bad s kd W hkw h h0
end Go.Proofs.YtkjgkchdkeggoaaGreatDoor
