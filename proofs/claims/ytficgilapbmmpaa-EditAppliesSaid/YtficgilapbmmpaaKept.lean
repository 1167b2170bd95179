/-
  Kept: the stretches that edits leave, and where each begins then.
-/
import Derived.Test.YtficgilapbmmpaaKeep
import Derived.Deep.RegionHeld3
import Derived.Deep.RegionWith
namespace Go.Proofs.Ytficgilapbmmpaa
open Go.RowKit
set_option linter.unusedVariables false

def keptP (o : Nat) : List Seg → List (Int × Int)
  | [] => []
  | x :: r => (if 0 < x.k.length then [((o : Int), ((o + x.k.length : Nat) : Int))] else []) ++ keptP (o + x.k.length + x.d.length) r
def keptB (m : Nat) : List Seg → List Int
  | [] => []
  | x :: r => (if 0 < x.k.length then [(m : Int)] else []) ++ keptB (m + x.k.length + x.i.length) r
theorem keptP_append (a b : List Seg) (o : Nat) : keptP o (a ++ b) = keptP o a ++ keptP (o + (orig a).length) b := by
  induction a generalizing o with
  | nil => simp [keptP, orig]
  | cons x r ih =>
    simp only [List.cons_append, keptP, ih, orig, List.length_append, List.append_assoc]
    rw [show o + x.k.length + x.d.length + (orig r).length = o + (x.k.length + (x.d.length + (orig r).length)) from by omega]
theorem keptB_append (a b : List Seg) (m : Nat) : keptB m (a ++ b) = keptB m a ++ keptB (m + (made a).length) b := by
  induction a generalizing m with
  | nil => simp [keptB, made]
  | cons x r ih =>
    simp only [List.cons_append, keptB, ih, made, List.length_append, List.append_assoc]
    rw [show m + x.k.length + x.i.length + (made r).length = m + (x.k.length + (x.i.length + (made r).length)) from by omega]
theorem keptP_length (xs : List Seg) (o : Nat) : (keptP o xs).length ≤ xs.length := by
  induction xs generalizing o with
  | nil => simp [keptP]
  | cons x r ih => have := ih (o + x.k.length + x.d.length); simp only [keptP, List.length_append, List.length_cons]; split <;> simp <;> omega
theorem keptB_length (xs : List Seg) (o m : Nat) : (keptB m xs).length = (keptP o xs).length := by
  induction xs generalizing o m with
  | nil => simp [keptB, keptP]
  | cons x r ih => simp only [keptB, keptP, List.length_append, ih (o + x.k.length + x.d.length)]; split <;> simp
theorem keptP_take (xs : List Seg) (k : Nat) (h : k < xs.length) : keptP 0 (xs.take (k + 1)) = keptP 0 (xs.take k) ++ (if 0 < xs[k].k.length then [(((orig (xs.take k)).length : Int), (((orig (xs.take k)).length + xs[k].k.length : Nat) : Int))] else []) := by
  rw [List.take_succ_eq_append_getElem h, keptP_append]; simp [keptP]
theorem keptB_take (xs : List Seg) (k : Nat) (h : k < xs.length) : keptB 0 (xs.take (k + 1)) = keptB 0 (xs.take k) ++ (if 0 < xs[k].k.length then [((made (xs.take k)).length : Int)] else []) := by
  rw [List.take_succ_eq_append_getElem h, keptB_append]; simp [keptB]

theorem makes (fn : Fn) (first cap : Array Value) (w : World) : (Instr.makeFunc fn first cap).run Try.prog w = .ok (.func fn first cap) w := rfl

theorem keeping_start (w : World) : Keeping w ((((w.alloc (.cells #[.slice none 0 0] 37)).alloc (.cells #[.slice none 0 0] 38)).alloc (.cells #[.int .i64 0] 3)).alloc (.cells #[.int .i64 0] 3)) (.slice none 0 0) (.slice none 0 0) [] [] 0 0 := by
  refine ⟨?_, ?_, ?_, ?_, World.ownsRow_nil _ _ _ _, World.ownsRow_nil _ _ _ _, by go_grown⟩
  · rw [heap_alloc_old _ _ (by simp; omega), heap_alloc_old _ _ (by simp; omega), heap_alloc_old _ _ (by simp)]; exact heap_alloc_new _ _
  · rw [heap_alloc_old _ _ (by simp), heap_alloc_old _ _ (by simp)]; have := heap_alloc_new (w.alloc (.cells #[.slice none 0 0] 37)) (.cells #[.slice none 0 0] 38); simpa using this
  · rw [heap_alloc_old _ _ (by simp)]; have := heap_alloc_new ((w.alloc (.cells #[.slice none 0 0] 37)).alloc (.cells #[.slice none 0 0] 38)) (.cells #[.int .i64 0] 3); simpa using this
  · have := heap_alloc_new (((w.alloc (.cells #[.slice none 0 0] 37)).alloc (.cells #[.slice none 0 0] 38)).alloc (.cells #[.int .i64 0] 3)) (.cells #[.int .i64 0] 3); simpa using this

theorem Keeping.step {w1 wr w2 : World} {v1 v2 : Value} {ps : List (Int × Int)} {bs : List Int} {a sh : Int} (K : Keeping w1 wr v1 v2 ps bs a sh) (hb : Below wr.heap.size wr w2) : Keeping w1 w2 v1 v2 ps bs a sh := by
  have lt : ∀ {k o}, wr.heap[k]? = some o → k < wr.heap.size := fun h => (Array.getElem?_eq_some_iff.1 h).1
  have hs : w1.heap.size ≤ wr.heap.size := K.below.size
  refine ⟨(hb.block _ (lt K.st)).trans K.st, (hb.block _ (lt K.be)).trans K.be, (hb.block _ (lt K.ca)).trans K.ca, (hb.block _ (lt K.cs)).trans K.cs, ?_, ?_, K.below.trans (hb.mono hs)⟩
  · refine ⟨K.own1.1, ?_⟩
    rcases K.own1.2 with h0 | ⟨g, cap, cur, hv, hg, hh, r⟩
    · exact .inl h0
    · exact .inr ⟨g, cap, cur, hv, hg, (hb.block g (lt hh)).trans hh, r⟩
  · refine ⟨K.own2.1, ?_⟩
    rcases K.own2.2 with h0 | ⟨g, cap, cur, hv, hg, hh, r⟩
    · exact .inl h0
    · exact .inr ⟨g, cap, cur, hv, hg, (hb.block g (lt hh)).trans hh, r⟩

theorem Keeping.put {w1 wr : World} {v1 v2 : Value} {ps : List (Int × Int)} {bs : List Int} {a sh : Int} (K : Keeping w1 wr v1 v2 ps bs a sh) (a' sh' : Int) : Keeping w1 ((wr.setCell ⟨w1.heap.size + 2, 0, none⟩ (.int .i64 a')).setCell ⟨w1.heap.size + 3, 0, none⟩ (.int .i64 sh')) v1 v2 ps bs a' sh' := by
  refine ⟨?_, ?_, ?_, ?_, ?_, ?_, ?_⟩
  · rw [heap_set_other (by omega), heap_set_other (by omega)]; exact K.st
  · rw [heap_set_other (by omega), heap_set_other (by omega)]; exact K.be
  · rw [heap_set_other (by omega)]; exact heap_set_same K.ca _
  · refine heap_set_same (x := .int .i64 sh) ?_ _
    rw [heap_set_other (by omega)]; exact K.cs
  · exact ownsRow_low (ownsRow_low K.own1 (by omega) _) (by omega) _
  · exact ownsRow_low (ownsRow_low K.own2 (by omega) _) (by omega) _
  · exact (K.below.setCell (p := ⟨w1.heap.size + 2, 0, none⟩) (by simp) _).setCell (p := ⟨w1.heap.size + 3, 0, none⟩) (by simp) _

theorem keep_any (w1 wr : World) (v1 v2 : Value) (ps : List (Int × Int)) (bs : List Int) (A P : Nat) (s e : Int) (K : Keeping w1 wr v1 v2 ps bs A s) (he : e = (P : Int)) (hp : ps.length ≤ 1000) (hb : bs.length ≤ 1000) (a1 : A ≤ 1000000) (s0 : -1000000 ≤ s) (s1 : s ≤ 1000000) :
    Calls Try.prog 37 #[.int .i64 e, .pointer (some ⟨w1.heap.size + 2, 0, none⟩), .pointer (some ⟨w1.heap.size, 0, none⟩), .pointer (some ⟨w1.heap.size + 1, 0, none⟩), .pointer (some ⟨w1.heap.size + 3, 0, none⟩)] wr fun r w' => r = .returned (.tuple #[]) ∧ ∃ v1' v2', Keeping w1 w' v1' v2' (ps ++ if A < P then [((A : Int), (P : Int))] else []) (bs ++ if A < P then [(A : Int) + s] else []) A s ∧ EdsKept wr w' := by
  subst he
  by_cases h : A < P
  · rw [if_pos h, if_pos h]
    exact keep_yes w1 wr v1 v2 ps bs A s P K (by omega) hp hb (by omega) (by omega) s0 s1
  · rw [if_neg h, if_neg h]
    refine (keep_no w1 wr v1 v2 ps bs A s P K (by omega)).mono ?_
    rintro e w' ⟨rfl, rfl⟩
    exact ⟨rfl, v1, v2, by simpa using K, fun _ _ h => h⟩

theorem kept_bad (n : Int) (p : Option Addr) (m cap : Nat) (l : List Ed) (w : World) (h : EditsIn w p m cap l) (hm : m ≤ 60) (hbad : checkN n l ≠ 0) :
    Calls Try.prog 19 #[.int .i64 n, .slice p m cap] w fun e w' => e = .returned (.tuple #[.slice none 0 0, .slice none 0 0, .int .i64 (checkN n l)]) ∧ Below w.heap.size w w' := by
  have hne : (checkN n l == 0) = false := by rw [beq_eq_false_iff_ne]; exact hbad
  have hne2 : (checkN n l != 0) = true := by rw [bne, hne]; rfl
  have HC := check_any n p m cap l w h hm
  generalize checkN n l = c at *
  go_enter Try.func19, Try.ntmps19
  go_wp2_with (go_at_call 14; refine HC.mono ?_; rintro e w1 ⟨rfl, hb⟩)
  go_returns
  exact ⟨rfl, hb⟩

def lastP (o n : Nat) : List (Int × Int) := if o < n then [((o : Int), (n : Int))] else []
def lastB (o n m : Nat) : List Int := if o < n then [(m : Int)] else []
/-- What Kept leaves. -/
def KeptPost (w : World) (ps : List (Int × Int)) (bs : List Int) (e : Ending) (w' : World) : Prop :=
  ∃ v1 v2 base, e = .returned (.tuple #[v1, v2, .int .i64 0]) ∧ Below w.heap.size w w' ∧ w'.ownsRow base 53 2 v1 ps.length (pairCells ps) ∧ w'.ownsRow base 3 1 v2 bs.length (intCells bs)

set_option maxHeartbeats 2000000 in
theorem kept_some (xs : List Seg) (last : List UInt8) (n : Nat) (hn : n = (orig xs ++ last).length) (hgap : Gap 0 xs) (hsz : n ≤ 100000) (hby2 : ∀ i, (h : i < xs.length) → (made (xs.take i)).length + xs[i].k.length + xs[i].i.length ≤ 200000)
    (b off cap : Nat) (w : World) (hat : EditsAt w b off (edits 0 xs)) (hb : b < w.heap.size) (hcap : xs.length ≤ cap) (hm : xs.length ≤ 60) (hl : 0 < xs.length) :
    Calls Try.prog 19 #[.int .i64 n, .slice (some ⟨b, off, none⟩) xs.length cap] w fun e w' => KeptPost w (keptP 0 xs ++ lastP (orig xs).length n) (keptB 0 xs ++ lastB (orig xs).length n (made xs).length) e w' := by
  have hck : checkN (n : Int) (edits 0 xs) = 0 := by rw [hn]; exact check_edits hgap
  have hin : EditsIn w (some ⟨b, off, none⟩) xs.length cap (edits 0 xs) := ⟨(edits_length xs 0).symm, .inr ⟨b, off, rfl, hcap, hb, hat⟩⟩
  have hml : (made xs).length ≤ 300000 := by
    have h2 := hby2 (xs.length - 1) (by omega)
    have h3 := made_take_succ xs (xs.length - 1) (by omega)
    rw [show xs.length - 1 + 1 = xs.length from by omega, List.take_of_length_le (Nat.le_refl _)] at h3
    rw [h3]; simp; omega
  have H := Lib.hid hat
  have HY := Lib.hid hby2
  have HL := Lib.hid hn
  have HC : Calls Try.prog 14 #[.int .i64 n, .slice (some ⟨b, off, none⟩) xs.length cap] w fun e w' => e = .returned (.int .i64 0) ∧ Below w.heap.size w w' := by
    refine (check_any (n : Int) (some ⟨b, off, none⟩) xs.length cap (edits 0 xs) w hin hm).mono ?_
    rintro e w' ⟨rfl, hb⟩
    exact ⟨ret_int hck, hb⟩
  clear hat hby2 hck hin hn
  have hmf := makes
  go_enter Try.func19, Try.ntmps19
  go_wp2_with (go_at_call 14; refine HC.mono ?_; rintro e w1 ⟨rfl, hb1⟩)
  clear HC
  have HK := keeping_start w1
  go_loopw [24] (fun i wr => ∃ k : Nat, k ≤ xs.length ∧ i = .int .i64 k ∧ ∃ v1 v2, Keeping w1 wr v1 v2 (keptP 0 (xs.take k)) (keptB 0 (xs.take k)) ((orig (xs.take k)).length : Nat) ((made (xs.take k)).length - (orig (xs.take k)).length)) (fun i _ => xs.length - (intOf i).toNat)
  case atStart => exact ⟨0, by omega, rfl, _, _, HK⟩
  case round =>
    obtain ⟨k, hk, rfl, v1, v2, K⟩ := hrel
    have hz1 := hb1.size
    have hbe := K.below
    have hz2 := hbe.size
    clear HK
    by_cases hlt : k < xs.length
    · have hcells := H.out k (by rw [edits_length]; exact hlt)
      rw [edits_at xs 0 k hlt] at hcells
      obtain ⟨e0, e1, e2⟩ := hcells
      have g0 := (hbe.cell (p := ⟨b, off + k * 3, none⟩) (Nat.lt_of_lt_of_le hb hz1)).trans ((hb1.cell (p := ⟨b, off + k * 3, none⟩) hb).trans e0)
      have g1 := (hbe.cell (p := ⟨b, off + k * 3 + 1, none⟩) (Nat.lt_of_lt_of_le hb hz1)).trans ((hb1.cell (p := ⟨b, off + k * 3 + 1, none⟩) hb).trans e1)
      have g2 := (hbe.cell (p := ⟨b, off + k * 3 + 2, none⟩) (Nat.lt_of_lt_of_le hb hz1)).trans ((hb1.cell (p := ⟨b, off + k * 3 + 2, none⟩) hb).trans e2)
      clear e0 e1 e2
      have hbyk := HY.out k hlt
      have hos : (orig (xs.take (k + 1))).length = 0 + (orig (xs.take k)).length + xs[k].k.length + xs[k].d.length := by rw [orig_take_succ xs k hlt]; simp; omega
      have hms : (made (xs.take (k + 1))).length = (made (xs.take k)).length + xs[k].k.length + xs[k].i.length := by rw [made_take_succ xs k hlt]; simp; omega
      have hle : 0 + (orig (xs.take k)).length + xs[k].k.length + xs[k].d.length ≤ n := by
        rw [HL.out, orig_split xs k hlt]; simp; omega
      have hkp := keptP_take xs k hlt
      have hkb := keptB_take xs k hlt
      have hpl := keptP_length (xs.take k) 0
      have hbl := keptB_length (xs.take k) 0 0
      have htl : (xs.take k).length ≤ k := List.length_take_le _ _
      have hP1 : (keptP 0 (xs.take k)).length ≤ 1000 := by omega
      have hP2 : (keptB 0 (xs.take k)).length ≤ 1000 := by omega
      have HOS := Lib.hid hos
      have HMS := Lib.hid hms
      have HKP := Lib.hid hkp
      have HKB := Lib.hid hkb
      clear hos hms hkp hkb hpl hbl htl
      have hMk : (made (xs.take k)).length ≤ 200000 := by omega
      have hti : (⟨xs[k].i.toArray⟩ : ByteArray).size = xs[k].i.length := by show xs[k].i.toArray.size = _; simp
      have HTI := Lib.hid hti
      have hts : (⟨xs[k].i.toArray⟩ : ByteArray).size ≤ 200000 := by omega
      clear hti hbyk
      generalize hA : (orig (xs.take k)).length = A at *
      generalize hP : 0 + A + xs[k].k.length = P at *
      generalize hE : P + xs[k].d.length = E at *
      generalize hM : (made (xs.take k)).length = M at *
      generalize (⟨xs[k].i.toArray⟩ : ByteArray) = t at *
      have hAP : A ≤ P := by omega
      have hPE : P ≤ E := by omega
      have hPs : P ≤ n := by omega
      have HP := Lib.hid hP
      have HE := Lib.hid hE
      clear hA hP hE hM
      have hbw := (Below.refl wr.heap.size wr).alloc (Nat.le_refl _) (.cells #[.int .i64 P, .int .i64 E, .string t] 55)
      have K2 := K.step hbw
      have HE1 := heap_alloc_new wr (.cells #[.int .i64 P, .int .i64 E, .string t] 55)
      have HEH := Lib.hid HE1
      have KH := Lib.hid K2
      clear K K2 hbw HE1
      go_wp2_with fail
      refine (keep_any w1 _ v1 v2 _ _ A P _ _ KH.out rfl hP1 hP2 (by omega) (by omega) (by omega)).mono ?_
      rintro r w5 ⟨rfl, v1', v2', K5, EK5⟩
      have he5 := EK5 _ _ HEH.out
      have a0 : w5.cell? ⟨wr.heap.size, 0, none⟩ = some (.int .i64 P) := by rw [Lib.cell_of_heap he5]; rfl
      have a1 : w5.cell? ⟨wr.heap.size, 1, none⟩ = some (.int .i64 E) := by rw [Lib.cell_of_heap he5]; rfl
      have a2 : w5.cell? ⟨wr.heap.size, 2, none⟩ = some (.string t) := by rw [Lib.cell_of_heap he5]; rfl
      have a3 : w5.cell? ⟨w1.heap.size + 1 + 1 + 1, 0, none⟩ = some (.int .i64 ((M : Int) - A)) := by rw [Lib.cell_of_heap K5.cs]; rfl
      have a4 : w5.cell? ⟨w1.heap.size + 1 + 1, 0, none⟩ = some (.int .i64 A) := by rw [Lib.cell_of_heap K5.ca]; rfl
      have f3 : w5.frozen? ⟨w1.heap.size + 1 + 1 + 1, 0, none⟩ = false := Lib.frozen_of_heap K5.cs 0
      have f4 : w5.frozen? ⟨w1.heap.size + 1 + 1, 0, none⟩ = false := Lib.frozen_of_heap K5.ca 0
      have l3 : w1.heap.size + 1 + 1 + 1 < w5.heap.size := (Array.getElem?_eq_some_iff.1 K5.cs).1
      have l4 : wr.heap.size < w5.heap.size := (Array.getElem?_eq_some_iff.1 he5).1
      have l5 : w1.heap.size + 1 + 1 + 1 < wr.heap.size := by
        have h1 := (Array.getElem?_eq_some_iff.1 KH.out.cs).1
        simp at h1
        rcases Nat.lt_or_ge (w1.heap.size + 3) wr.heap.size with h2 | h2
        · exact h2
        · exfalso
          have h3 := KH.out.cs
          have h4 : w1.heap.size + 3 = wr.heap.size := by omega
          rw [h4, HEH.out] at h3
          simp at h3
      have K5H := Lib.hid K5
      have conv : ∀ wz, Keeping w1 wz v1' v2' (keptP 0 (xs.take k) ++ if A < P then [((A : Int), (P : Int))] else []) (keptB 0 (xs.take k) ++ if A < P then [(A : Int) + (M - A)] else []) E ((M : Int) - A + (t.size - (E - P))) → Keeping w1 wz v1' v2' (keptP 0 (xs.take (k + 1))) (keptB 0 (xs.take (k + 1))) ((orig (xs.take (k + 1))).length : Nat) ((made (xs.take (k + 1))).length - (orig (xs.take (k + 1))).length) := by
        intro wz hw
        have q1 := HOS.out
        have q2 := HMS.out
        have q3 := HTI.out
        have q4 := HP.out
        have q5 : (((made (xs.take (k + 1))).length : Int) - (orig (xs.take (k + 1))).length) = ((M : Int) - A + (t.size - (E - P))) := by rw [q1, q2]; omega
        rw [q5, q1, HKP.out, HKB.out]
        have q6 : (if A < P then [((A : Int), (P : Int))] else []) = (if 0 < xs[k].k.length then [((A : Int), ((A + xs[k].k.length : Nat) : Int))] else []) := by
          by_cases h : 0 < xs[k].k.length
          · rw [if_pos h, if_pos (by omega), show P = A + xs[k].k.length from by omega]
          · rw [if_neg h, if_neg (by omega)]
        have q7 : (if A < P then [(A : Int) + (M - A)] else []) = (if 0 < xs[k].k.length then [(M : Int)] else []) := by
          by_cases h : 0 < xs[k].k.length
          · rw [if_pos h, if_pos (by omega), show (A : Int) + (M - A) = M from by omega]
          · rw [if_neg h, if_neg (by omega)]
        rw [← q6, ← q7]
        exact hw
      have hwr : IntKind.i64.wrap ((M : Int) - A + (t.size - (E - P))) = (M : Int) - A + (t.size - (E - P)) := IntWalk.i64_in _ (by omega)
      have CONV := Lib.hid conv
      have HWR := Lib.hid hwr
      clear conv hwr
      have ne1 : ¬ w1.heap.size + 1 + 1 = wr.heap.size := by omega
      have ne2 : ¬ w1.heap.size + 1 + 1 + 1 = wr.heap.size := by omega
      have ne3 : ¬ wr.heap.size = w1.heap.size + 1 + 1 := by omega
      have ne4 : ¬ wr.heap.size = w1.heap.size + 1 + 1 + 1 := by omega
      clear K5 EK5 he5 g0 g1 g2
      go_wp2_with fail
      go_region_with (go_at_call 38; refine (grown_any P E t (by omega) (by omega) (by omega) (by omega) _).mono ?_; rintro e wp ⟨rfl, hbp⟩; have b3 := (hbp.cell (p := ⟨w1.heap.size + 1 + 1 + 1, 0, none⟩) (by simp; omega)).trans a3; have b4 := (hbp.cell (p := ⟨w1.heap.size + 1 + 1, 0, none⟩) (by simp; omega)).trans a4; have b0 := (hbp.cell (p := ⟨wr.heap.size, 0, none⟩) (by simp; omega)).trans a0; have b1 := (hbp.cell (p := ⟨wr.heap.size, 1, none⟩) (by simp; omega)).trans a1; have b2 := (hbp.cell (p := ⟨wr.heap.size, 2, none⟩) (by simp; omega)).trans a2; have h3 := (hbp.frozen (p := ⟨w1.heap.size + 1 + 1 + 1, 0, none⟩) (by simp; omega)).trans f3; have h4 := (hbp.frozen (p := ⟨w1.heap.size + 1 + 1, 0, none⟩) (by simp; omega)).trans f4)
      all_goals
        go_wp2_with fail
        go_roundw
        case rel =>
          refine ⟨k + 1, by omega, by go_num, v1', v2', CONV.out _ ?_⟩
          try rw [HWR.out]
          exact (K5H.out.step ((Below.refl w5.heap.size w5).drew.trans hbp)).put E _
        case measure => simp [intOf]; omega
    · have hkk : k = xs.length := by omega
      have hta : xs.take k = xs := List.take_of_length_le (by omega)
      rw [hta] at K
      have hon : (orig xs).length ≤ n := by rw [HL.out]; simp
      have hpl := keptP_length xs 0
      have hbl := keptB_length xs 0 0
      clear hta H HY
      go_wp2_with fail
      refine (keep_any w1 _ v1 v2 _ _ (orig xs).length n _ _ K rfl (by omega) (by omega) (by omega) (by omega) (by omega)).mono ?_
      rintro r w5 ⟨rfl, v1', v2', K5, EK5⟩
      have a1 : w5.cell? ⟨w1.heap.size, 0, none⟩ = some v1' := by rw [Lib.cell_of_heap K5.st]; rfl
      have a2 : w5.cell? ⟨w1.heap.size + 1, 0, none⟩ = some v2' := by rw [Lib.cell_of_heap K5.be]; rfl
      have hq : (if (orig xs).length < n then [((orig xs).length : Int) + ((made xs).length - (orig xs).length)] else []) = lastB (orig xs).length n (made xs).length := by
        unfold lastB
        split
        · congr 1; omega
        · rfl
      have hq2 : (if (orig xs).length < n then [(((orig xs).length : Int), (n : Int))] else []) = lastP (orig xs).length n := rfl
      rw [hq, hq2] at K5
      have K5H := Lib.hid K5
      clear K5 K EK5 hq hq2
      go_wp2_with fail
      go_quiet (fail)
      go_wp2_with fail
      go_returns
      exact ⟨v1', v2', w1.heap.size + 4, rfl, hb1.trans ((below_drewN K5H.out.below _).mono hz1), K5H.out.own1, K5H.out.own2⟩

theorem kept_nil (n : Nat) (p : Option Addr) (cap : Nat) (w : World) (hsz : n ≤ 100000) :
    Calls Try.prog 19 #[.int .i64 n, .slice p 0 cap] w fun e w' => KeptPost w (lastP 0 n) (lastB 0 n 0) e w' := by
  have hck : checkN (n : Int) [] = 0 := checkN_ok (by omega) (fun i hi => absurd hi (by simp)) (fun i hi => absurd hi (by simp))
  have HC : Calls Try.prog 14 #[.int .i64 n, .slice p 0 cap] w fun e w' => e = .returned (.int .i64 0) ∧ Below w.heap.size w w' := by
    refine (check_any (n : Int) p 0 cap [] w ⟨rfl, .inl rfl⟩ (by omega)).mono ?_
    rintro e w' ⟨rfl, hb⟩
    exact ⟨ret_int hck, hb⟩
  clear hck
  have hmf := makes
  go_enter Try.func19, Try.ntmps19
  go_wp2_with (go_at_call 14; refine HC.mono ?_; rintro e w1 ⟨rfl, hb1⟩)
  clear HC
  have K := keeping_start w1
  have hz1 := hb1.size
  refine wp_loop_rounds 1 ?_
  rw [rounds_succ]
  go_wp2_with fail
  refine (keep_any w1 _ _ _ _ _ 0 n _ _ K rfl (by simp) (by simp) (by omega) (by omega) (by omega)).mono ?_
  rintro r w5 ⟨rfl, v1', v2', K5, EK5⟩
  have a1 : w5.cell? ⟨w1.heap.size, 0, none⟩ = some v1' := by rw [Lib.cell_of_heap K5.st]; rfl
  have a2 : w5.cell? ⟨w1.heap.size + 1, 0, none⟩ = some v2' := by rw [Lib.cell_of_heap K5.be]; rfl
  have hq : ([] ++ if 0 < n then [(((0 : Nat) : Int), (n : Int))] else []) = lastP 0 n := rfl
  have hq2 : ([] ++ if 0 < n then [((0 : Nat) : Int) + 0] else []) = lastB 0 n 0 := rfl
  rw [hq, hq2] at K5
  have K5H := Lib.hid K5
  clear K5 K EK5 hq hq2
  go_wp2_with fail
  go_quiet (fail)
  go_wp2_with fail
  go_returns
  exact ⟨v1', v2', w1.heap.size + 4, rfl, hb1.trans ((below_drewN K5H.out.below _).mono hz1), K5H.out.own1, K5H.out.own2⟩

theorem kept_ok (xs : List Seg) (last : List UInt8) (n : Nat) (hn : n = (orig xs ++ last).length) (hgap : Gap 0 xs) (hsz : n ≤ 100000) (hi : ins xs ≤ 100000)
    (p : Option Addr) (m cap : Nat) (w : World) (h : EditsIn w p m cap (edits 0 xs)) (hm : m ≤ 60) :
    Calls Try.prog 19 #[.int .i64 n, .slice p m cap] w fun e w' => KeptPost w (keptP 0 xs ++ lastP (orig xs).length n) (keptB 0 xs ++ lastB (orig xs).length n (made xs).length) e w' := by
  obtain ⟨hmn, hr⟩ := h
  rw [edits_length] at hmn
  have ho : (orig xs).length ≤ n := by rw [hn]; simp
  by_cases h0 : xs.length = 0
  · have : xs = [] := List.length_eq_zero_iff.1 h0
    subst this
    subst hmn
    exact kept_nil n p cap w hsz
  · rcases hr with h0' | ⟨b, off, rfl, hc, hb, hat⟩
    · omega
    · subst hmn
      exact kept_some xs last n hn hgap hsz (fun i h => by have := ins_take xs i h; omega) b off cap w hat hb hc hm (by omega)
end Go.Proofs.Ytficgilapbmmpaa
