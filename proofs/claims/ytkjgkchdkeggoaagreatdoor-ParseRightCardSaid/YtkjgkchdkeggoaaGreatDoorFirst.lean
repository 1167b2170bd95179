/-
  part, Bad, First.
-/
import Derived.Test.YtkjgkchdkeggoaaGreatDoorScan
import Derived.Deep.RegionHeld3
namespace Go.Proofs.YtkjgkchdkeggoaaGreatDoor
open Go.RowKit
set_option maxRecDepth 20000
set_option linter.unusedVariables false
set_option linter.unusedSimpArgs false

set_option maxHeartbeats 1000000 in
theorem part_any (s : ByteArray) (hs : s.size ≤ 1000000) (k : Int) (a e : Nat) (ha : a ≤ e) (he : e ≤ s.size) (w : World) :
    Calls Tryz.prog 80 #[.agg #[.int .i64 k, .int .i64 (a : Int), .int .i64 (e : Int)], .string s] w fun r w' => r = .returned (.string (s.extract a e)) ∧ Below w.heap.size w w' := by
  have hsl : ∀ w, Sem.run Tryz.prog (Instr.slice 9 (.string s) (some (.int .i64 a)) (some (.int .i64 e)) none) w = .ok (.string (s.extract a e)) w := fun w => by
    have := run_slice_string (P := Tryz.prog) (w := w) 9 s .i64 .i64 (a : Int) (e : Int) Tryz.underlying9 (by omega) (by omega) (by omega)
    exact this
  go_enter Tryz.func80, Tryz.ntmps80
  go_wp2
  go_returns
  exact ⟨rfl, by go_grown⟩
/-- What is wrong with a bad token that begins there. -/
def badN (s : ByteArray) (a : Nat) : Int := bif headB (s.data.toList.drop a) 34 || headB (s.data.toList.drop a) 40 then 8 else 7
set_option maxHeartbeats 1000000 in
theorem bad_any (s : ByteArray) (hs : s.size ≤ 1000000) (a e : Nat) (ha : a < e) (he : e ≤ s.size) (w : World) :
    Calls Tryz.prog 55 #[.agg #[.int .i64 3, .int .i64 (a : Int), .int .i64 (e : Int)], .string s] w fun r w' => r = .returned (.int .i64 (badN s a)) ∧ Below w.heap.size w w' := by
  have HP := fun W => part_any s hs 3 a e (by omega) he W
  have hz : (s.extract a e).size = e - a := by simp; omega
  have h0 : 0 < (s.extract a e).size := by omega
  have hem : (s.extract a e).toList.isEmpty = false := by
    rw [Lib.toList_data]
    cases h : (s.extract a e).data.toList with
    | nil => exact absurd (show (s.extract a e).size = 0 by rw [← data_len, h]; rfl) (by omega)
    | cons => rfl
  have hB : badN s a = bif (((s.extract a e)[0]'h0).toNat : Int) == 34 || (((s.extract a e)[0]'h0).toNat : Int) == 40 then 8 else 7 := by
    have e1 : ∀ n, headB (s.data.toList.drop a) n = ((((s.extract a e)[0]'h0).toNat : Int) == n) := fun n => by
      rw [← headB_at (s.extract a e) 0 h0 n, List.drop_zero, Lib.extract_data, drop_at s a (by omega)]
      obtain ⟨m, hm⟩ : ∃ m, e - a = m + 1 := ⟨e - a - 1, by omega⟩
      rw [hm]; rfl
    unfold badN
    rw [e1, e1]
  have HB := Lib.hid hB
  clear hB hz
  generalize s.extract a e = p at *
  cases h1 : (((p[0]'h0).toNat : Int) == 34) <;> cases h2 : (((p[0]'h0).toNat : Int) == 40) <;> simp only [h1, h2] at HB
  all_goals
    go_enter Tryz.func55, Tryz.ntmps55
    go_wp2_with fail
    refine (HP _).mono ?_
    rintro r w1 ⟨rfl, hb⟩
    have HO : Own3 w1 w.heap.size _ _ _ _ := ⟨(hb.block _ (by simp)).trans (heap_alloc_new w _)⟩
    have c0 := HO.c0
    go_wp2_with fail
    go_returns
    exact ⟨ret_int HB.out.symm, ((Below.refl w.heap.size w).alloc (Nat.le_refl _) _).trans (hb.mono (by simp))⟩
/-- First's three variables, and what they hold. -/
structure FirstT (B : Nat) (w0 : World) (s : ByteArray) (x y : Int) (w : World) : Prop where
  txt : w.heap[B]? = some (.cells #[.string s] 9 (0, 0))
  pl : w.heap[B + 1]? = some (.cells #[.int .i64 x] 3 (0, 0))
  er : w.heap[B + 2]? = some (.cells #[.int .i64 y] 27 (0, 0))
  pos : 0 < B
  below : Below B w0 w
  kw : Kw w
theorem FirstT.step {B : Nat} {w0 : World} {s : ByteArray} {x y : Int} {w w' : World} (h : FirstT B w0 s x y w) (hb : Below w.heap.size w w') : FirstT B w0 s x y w' :=
  ⟨(hb.block _ (lt_of_block h.txt)).trans h.txt, (hb.block _ (lt_of_block h.pl)).trans h.pl, (hb.block _ (lt_of_block h.er)).trans h.er, h.pos, h.below.trans (hb.mono (Nat.le_of_lt (lt_of_block h.txt))), h.kw.step hb⟩
theorem FirstT.put {B : Nat} {w0 : World} {s : ByteArray} {x y : Int} {w : World} (h : FirstT B w0 s x y w) (x' y' : Int) : FirstT B w0 s x' y' ((w.setCell ⟨B + 1, 0, none⟩ (.int .i64 x')).setCell ⟨B + 2, 0, none⟩ (.int .i64 y')) := by
  refine ⟨?_, ?_, ?_, h.pos, (h.below.setCell (show B ≤ B + 1 by omega) _).setCell (show B ≤ B + 2 by omega) _, ?_⟩
  · rw [Below.heap_setCell _ _ _ _ (show B ≠ B + 2 by omega), Below.heap_setCell _ _ _ _ (show B ≠ B + 1 by omega)]; exact h.txt
  · rw [Below.heap_setCell _ _ _ _ (show B + 1 ≠ B + 2 by omega)]; exact one_setCell h.pl
  · exact one_setCell ((Below.heap_setCell _ _ _ _ (show B + 2 ≠ B + 1 by omega)).trans h.er)
  · obtain ⟨⟨t, fr, hk⟩, _⟩ := h.kw
    have hp := h.pos
    refine Kw.of (t := t) (fr := fr) ?_
    rw [Below.heap_setCell _ _ _ _ (show (0 : Nat) ≠ B + 2 by omega), Below.heap_setCell _ _ _ _ (show (0 : Nat) ≠ B + 1 by omega)]; exact hk

theorem f1_no (T : Tok) (hT : T.k ≠ 3) (B : Nat) (w0 w : World) (o : Obj) (s : ByteArray) (x : Int) (h : FirstT B w0 s x 0 w) :
    Calls Tryz.prog 54 #[T.v, .pointer (some ⟨B, 0, none⟩), .pointer (some ⟨B + 1, 0, none⟩), .pointer (some ⟨B + 2, 0, none⟩)] (w.alloc o) fun e w' => e = .returned (.bool true) ∧ FirstT B w0 s x 0 w' ∧ w'.heap[w.heap.size]? = some o := by
  have hlt := lt_of_block h.er
  obtain ⟨k, a, e⟩ := T
  have hT' : (k == 3) = false := by simpa using hT
  have hA := h.step ((Below.refl _ _).alloc (Nat.le_refl _) o)
  have hA2 := hA.step ((Below.refl _ _).alloc (Nat.le_refl _) (.cells #[.int .i64 k, .int .i64 (a : Int), .int .i64 (e : Int)] 39))
  have c0 := cell_of_one hA2.er
  have HA := Lib.hid hA2
  clear hA hA2 h hT
  simp only [Tok.v] at *
  go_enter Tryz.func54, Tryz.ntmps54
  go_wp2
  go_returns
  refine ⟨rfl, HA.out, ?_⟩
  rw [heap_alloc_old _ _ (by simp)]
  exact heap_alloc_new w o

theorem far1 {w : World} {b k o : Nat} {v : Value} (x : Int) (h : w.cell? ⟨k, o, none⟩ = some v) (hne : ¬ k = b) : (w.setCell ⟨b, 0, none⟩ (.int .i64 x)).cell? ⟨k, o, none⟩ = some v :=
  (World.cell?_of_block (Below.heap_setCell _ _ _ _ hne)).trans h
set_option maxHeartbeats 2000000 in
theorem f1_bad (a e : Nat) (B : Nat) (w0 w : World) (o : Obj) (s : ByteArray) (hs : s.size ≤ 1000000) (ha : a < e) (he : e ≤ s.size) (x y : Int) (h : FirstT B w0 s x y w) :
    Calls Tryz.prog 54 #[(Tok.mk 3 a e).v, .pointer (some ⟨B, 0, none⟩), .pointer (some ⟨B + 1, 0, none⟩), .pointer (some ⟨B + 2, 0, none⟩)] (w.alloc o) fun r w' => r = .returned (.bool false) ∧ FirstT B w0 s a (badN s a) w' ∧ w'.heap[w.heap.size]? = some o := by
  have hlt := lt_of_block h.er
  have hA := h.step ((Below.refl _ _).alloc (Nat.le_refl _) o)
  have hA2 := hA.step ((Below.refl _ _).alloc (Nat.le_refl _) (.cells #[.int .i64 3, .int .i64 (a : Int), .int .i64 (e : Int)] 39))
  have hbx : ((w.alloc o).alloc (.cells #[.int .i64 3, .int .i64 (a : Int), .int .i64 (e : Int)] 39)).heap[w.heap.size]? = some o := by
    rw [heap_alloc_old _ _ (by simp)]; exact heap_alloc_new w o
  have hbk : ((w.alloc o).alloc (.cells #[.int .i64 3, .int .i64 (a : Int), .int .i64 (e : Int)] 39)).heap[w.heap.size + 1]? = some (.cells #[.int .i64 3, .int .i64 (a : Int), .int .i64 (e : Int)] 39 (0, 0)) := by
    have := heap_alloc_new (w.alloc o) (.cells #[.int .i64 3, .int .i64 (a : Int), .int .i64 (e : Int)] 39); simpa using this
  have HBad := fun W => bad_any s hs a e ha he W
  have hn : (badN s a == 0) = false := by unfold badN; cases (headB (s.data.toList.drop a) 34 || headB (s.data.toList.drop a) 40) <;> rfl
  generalize badN s a = q at *
  have HA := Lib.hid hA2
  have HBX := Lib.hid hbx
  have HBK := Lib.hid hbk
  clear hA hA2 h hbx hbk
  simp only [Tok.v] at *
  go_enter Tryz.func54, Tryz.ntmps54
  go_wp2_with fail
  generalize hW : ((w.alloc o).alloc (.cells #[.int .i64 3, .int .i64 (a : Int), .int .i64 (e : Int)] 39)) = wa at *
  have hsz : wa.heap.size = w.heap.size + 2 := by rw [← hW]; simp
  clear hW
  have HK : Own3 wa (w.heap.size + 1) _ _ _ _ := ⟨HBK.out⟩
  have a0 := HK.c0
  have a1 := HK.c1
  have a2 := HK.c2
  have a3 := cell_of_one HA.out.txt
  have f1 := free_of_one HA.out.pl
  have f2 := free_of_one HA.out.er
  have g1 := cell_of_one HA.out.pl
  have g2 := cell_of_one HA.out.er
  have n1 : ¬ B + 1 = w.heap.size + 1 := by omega
  have n2 : ¬ B + 2 = w.heap.size + 1 := by omega
  have n3 : ¬ w.heap.size + 1 = B + 1 := by omega
  have n4 : ¬ w.heap.size + 1 = B + 2 := by omega
  have m1 : ¬ B = B + 1 := by omega
  have m2 : ¬ B = B + 2 := by omega
  clear HK
  go_region_held3 (fun w' => w'.cell? ⟨w.heap.size + 1, 0, none⟩ = some (.int .i64 3) ∧ w'.cell? ⟨w.heap.size + 1, 1, none⟩ = some (.int .i64 (a : Int)) ∧ w'.cell? ⟨w.heap.size + 1, 2, none⟩ = some (.int .i64 (e : Int)) ∧ w'.cell? ⟨B, 0, none⟩ = some (.string s))
    (first
      | go_keep
      | (go_split_ands
         refine ⟨?_, ?_, ?_, ?_⟩
         · (rw [hbp.cell (by simp; omega)]; assumption)
         · (rw [hbp.cell (by simp; omega)]; assumption)
         · (rw [hbp.cell (by simp; omega)]; assumption)
         · (rw [hbp.cell (by simp; omega)]; assumption)))
    (first
      | (go_at_call 55; refine (HBad _).mono ?_; rintro r wp ⟨rfl, hbp⟩; have b1 := (hbp.cell (p := ⟨B + 1, 0, none⟩) (by simp; omega)).trans g1; have b2 := (hbp.cell (p := ⟨B + 2, 0, none⟩) (by simp; omega)).trans g2; have k1 := (hbp.frozen (p := ⟨B + 1, 0, none⟩) (by simp; omega)).trans f1; have k2 := (hbp.frozen (p := ⟨B + 2, 0, none⟩) (by simp; omega)).trans f2; have p0 := far1 (a : Int) ((hbp.cell (p := ⟨w.heap.size + 1, 0, none⟩) (by simp; omega)).trans a0) n3; have q0 := far1 q p0 n4; have p1 := far1 (a : Int) ((hbp.cell (p := ⟨w.heap.size + 1, 1, none⟩) (by simp; omega)).trans a1) n3; have q1 := far1 q p1 n4; have p2 := far1 (a : Int) ((hbp.cell (p := ⟨w.heap.size + 1, 2, none⟩) (by simp; omega)).trans a2) n3; have q2 := far1 q p2 n4))
  have HF := (HA.out.step ((Below.refl wa.heap.size wa).drew.trans hbp)).put (a : Int) q
  have hbx2 : ((wp.setCell ⟨B + 1, 0, none⟩ (.int .i64 (a : Int))).setCell ⟨B + 2, 0, none⟩ (.int .i64 q)).heap[w.heap.size]? = some o := by
    rw [Below.heap_setCell _ _ _ _ (show w.heap.size ≠ B + 2 by omega), Below.heap_setCell _ _ _ _ (show w.heap.size ≠ B + 1 by omega)]
    exact (hbp.block _ (show w.heap.size < wa.drew.heap.size by show w.heap.size < wa.heap.size; omega)).trans HBX.out
  generalize ((wp.setCell ⟨B + 1, 0, none⟩ (.int .i64 (a : Int))).setCell ⟨B + 2, 0, none⟩ (.int .i64 q)) = W2 at *
  have z0 := cell_of_one HF.er
  have HF := Lib.hid HF
  have HX2 := Lib.hid hbx2
  clear hbx2
  go_wp2
  go_returns
  exact ⟨rfl, HF.out, HX2.out⟩
theorem badN_ne (s : ByteArray) (a : Nat) : badN s a ≠ 0 := by unfold badN; cases (headB (s.data.toList.drop a) 34 || headB (s.data.toList.drop a) 40) <;> decide
def noBad (t : Tok) : Bool := !(t.k == 3)
/-- The first bad one of these, where it begins, and what is wrong. -/
def firstT (s : ByteArray) : List Tok → Int × Int
  | [] => (s.size, 0)
  | t :: r => bif noBad t then firstT s r else ((t.a : Int), badN s t.a)
theorem firstT_snoc_no (s : ByteArray) (l : List Tok) (t : Tok) (h : noBad t = true) : firstT s (l ++ [t]) = firstT s l := by
  induction l with
  | nil => simp [firstT, h]
  | cons x r ih => simp only [List.cons_append, firstT, ih]
theorem firstT_all (s : ByteArray) (l : List Tok) (h : ∀ t ∈ l, noBad t = true) : firstT s l = ((s.size : Int), 0) := by
  induction l with
  | nil => rfl
  | cons x r ih => simp only [firstT]; rw [h x (by simp), ih (fun t ht => h t (by simp [ht]))]; rfl
theorem firstT_snoc_bad (s : ByteArray) (l : List Tok) (t : Tok) (h : ∀ t ∈ l, noBad t = true) (ht : noBad t = false) : firstT s (l ++ [t]) = ((t.a : Int), badN s t.a) := by
  induction l with
  | nil => simp [firstT, ht]
  | cons x r ih => simp only [List.cons_append, firstT]; rw [h x (by simp), ih (fun t ht => h t (by simp [ht]))]; rfl
theorem firstT_upto (s : ByteArray) (l : List Tok) (hz : ∀ t ∈ l.dropLast, t.k ≠ 0) : firstT s (uptoN noBad l) = firstT s l := by
  induction l with
  | nil => rfl
  | cons x r ih =>
    simp only [uptoN]
    cases hb : noBad x
    · simp [firstT, hb]
    · cases r with
      | nil => cases x.k == 0 <;> simp [uptoN, firstT, hb]
      | cons y t =>
        have hk : (x.k == 0) = false := by simpa using hz x (by simp)
        simp only [hk, Bool.not_false, Bool.and_true, cond_true, firstT, hb]
        exact ih (fun t ht => hz t (by simp [List.dropLast] at ht ⊢; exact .inr ht))
/-- First of a text. -/
def firstN (s : ByteArray) : Int × Int := firstT s (scanT s)

set_option maxHeartbeats 1000000 in
theorem first_any (s : ByteArray) (hs : s.size ≤ 1000000) (w : World) (hk : Kw w) :
    Calls Tryz.prog 33 #[.string s] w fun e w' => e = .returned (.tuple #[.int .i64 (firstT s (uptoN noBad (restT s 0))).1, .int .i64 (firstT s (uptoN noBad (restT s 0))).2]) ∧ Below w.heap.size w w' := by
  have h0 : FirstT w.heap.size w s s.size 0 (((w.alloc (.cells #[.string s] 9)).alloc (.cells #[.int .i64 s.size] 3)).alloc (.cells #[.int .i64 0] 27)) := by
    refine ⟨?_, ?_, ?_, hk.pos, (((Below.refl _ _).alloc (Nat.le_refl _) _).alloc (by simp) _).alloc (by simp; omega) _, ((hk.alloc _).alloc _).alloc _⟩
    · rw [heap_alloc_old _ _ (by simp; omega), heap_alloc_old _ _ (by simp)]; exact heap_alloc_new w _
    · rw [heap_alloc_old _ _ (by simp)]; have := heap_alloc_new (w.alloc (.cells #[.string s] 9)) (.cells #[.int .i64 (s.size : Int)] 3); simpa using this
    · have := heap_alloc_new ((w.alloc (.cells #[.string s] 9)).alloc (.cells #[.int .i64 (s.size : Int)] 3)) (.cells #[.int .i64 0] 27); simpa using this
  have HE := each_any noBad (fun l W => FirstT w.heap.size w s (firstT s l).1 (firstT s l).2 W) 54 #[.pointer (some ⟨w.heap.size, 0, none⟩), .pointer (some ⟨w.heap.size + 1, 0, none⟩), .pointer (some ⟨w.heap.size + 2, 0, none⟩)] cf17 s hs (fun l W W' h hb => h.step hb) (fun l W h => h.kw)
    (fun l a W o ha hl hg h => by
      cases hb : noBad (tokAt s a)
      · have hlt : a < s.size := by
          apply Decidable.byContradiction
          intro hn
          have : a = s.size := by omega
          rw [this, tokAt_end] at hb
          exact absurd hb (by simp [noBad])
        have h3 : (tokAt s a).k = 3 := by unfold noBad at hb; simpa using hb
        have hbo := tokAt_bound s a hlt
        have haa : (tokAt s a).a = a := by rw [tokAt_in s a hlt]
        rw [firstT_snoc_bad s l _ hg hb, haa]
        have e : tokAt s a = ⟨3, a, (tokAt s a).e⟩ := by
          generalize tokAt s a = T at *
          obtain ⟨x, y, z⟩ := T
          simp only at h3 haa
          subst h3 haa
          rfl
        rw [e]
        exact f1_bad a (tokAt s a).e w.heap.size w W o s hs hbo.1 hbo.2 _ _ h
      · rw [firstT_snoc_no s l _ hb]
        have h2 := firstT_all s l hg
        rw [h2] at h ⊢
        exact f1_no (tokAt s a) (by unfold noBad at hb; simpa using hb) w.heap.size w W o s _ h)
    _ h0
  have hmf : ∀ (fn : Fn) (first cap : Array Value) (w : World), (Instr.makeFunc fn first cap).run Tryz.prog w = .ok (.func fn first cap) w := fun _ _ _ _ => rfl
  clear h0 hk
  generalize firstT s (uptoN noBad (restT s 0)) = q at *
  obtain ⟨x, y⟩ := q
  go_enter Tryz.func33, Tryz.ntmps33
  go_wp2_with fail
  refine HE.mono ?_
  rintro e w1 ⟨rfl, h1⟩
  have z1 := cell_of_one h1.pl
  have z2 := cell_of_one h1.er
  have H1 := Lib.hid h1
  clear h1
  go_wp2_with fail
  go_quiet (fail)
  go_wp2
  go_ret2
  exact ⟨rfl, below_drewN H1.out.below _⟩
end Go.Proofs.YtkjgkchdkeggoaaGreatDoor
