/-
  The tokens of a text make a source that is good.; The deferred closure of whole: what it makes of a panic, and of none.; whole: a text as one part.; File, Exp, Pat, Type, Sig; read.; The tokens of the chapter's examples.; The chapter's examples.
-/
import Derived.Test.YtkjgkchdkeggoaaGreatDoorSaidAll
import Derived.Test.YtkjgkchdkeggoaaGreatDoorTy
namespace Go.Proofs.YtkjgkchdkeggoaaGreatDoor
open Go.RowKit
set_option maxRecDepth 20000
set_option linter.unusedVariables false
set_option linter.unusedSimpArgs false

theorem scanF_in : ∀ (n a : Nat) (l : List UInt8), (∀ t ∈ scanF n a l, a ≤ t.a ∧ t.a < t.e ∧ t.e ≤ a + l.length ∧ t.k ≠ 0) ∧ (scanF n a l).length ≤ l.length := by
 intro n
 induction n with
 | zero => intro a l; exact ⟨fun t h => by simp [scanF] at h, by simp [scanF]⟩
 | succ n ih =>
  intro a l
  cases l with
  | nil => exact ⟨fun t h => by simp [scanF] at h, by simp [scanF]⟩
  | cons c r =>
   have hb := tokN_bound (c :: r) (by simp)
   obtain ⟨h1, h2⟩ := ih (a + (tokN (c :: r)).2) ((c :: r).drop (tokN (c :: r)).2)
   have hl : ((c :: r).drop (tokN (c :: r)).2).length = (c :: r).length - (tokN (c :: r)).2 := by simp
   simp only [scanF, List.isEmpty_cons, cond_false]
   refine ⟨fun t h => ?_, ?_⟩
   ·rcases List.mem_cons.1 h with rfl | h
    ·exact ⟨Nat.le_refl _, by simp only; omega, by simp only; omega, tokN_kind (c :: r) (by simp)⟩
    ·obtain ⟨q1, q2, q3, q4⟩ := h1 t h
     exact ⟨by omega, q2, by omega, q4⟩
   ·rw [List.length_cons]
    omega
theorem mem_pick {ask : Int → Bool} : ∀ {l : List Tok} {t : Tok}, t ∈ pickT ask l → t ∈ l := by
 intro l
 induction l with
 | nil => intro t h; exact h
 | cons x r ih =>
  intro t h
  simp only [pickT] at h
  cases hx : ask x.k <;> rw [hx] at h
  ·exact List.mem_cons_of_mem _ (ih h)
  ·rcases List.mem_cons.1 h with rfl | h
   ·exact List.mem_cons_self ..
   ·exact List.mem_cons_of_mem _ (ih h)
/-- The tokens but the end. -/
def wordsI (s : ByteArray) : List Tok := pickT saysB (scanF s.size 0 s.data.toList)
theorem words_end (s : ByteArray) : wordsT s = wordsI s ++ [⟨0, s.size, s.size⟩] := by
 unfold wordsT scanT restT wordsI
 rw [List.drop_zero, pickT_append]
 rfl
theorem wordsI_in (s : ByteArray) : (∀ t ∈ wordsI s, t.a < t.e ∧ t.e ≤ s.size ∧ t.k ≠ 0) ∧ (wordsI s).length ≤ s.size := by
 have h := scanF_in s.size 0 s.data.toList
 rw [data_len] at h
 refine ⟨fun t ht => ?_, Nat.le_trans (pickT_length _ _) h.2⟩
 obtain ⟨_, h2, h3, h4⟩ := h.1 t (mem_pick ht)
 exact ⟨h2, by omega, h4⟩
theorem good_words (S : Src) (hs : S.s.size ≤ 1000000) (ht : S.ts = wordsT S.s) (hc : S.ts.length ≤ S.cw) (hg : S.gw ≠ S.g) : S.Good := by
 obtain ⟨h1, h2⟩ := wordsI_in S.s
 have e : S.ts = wordsI S.s ++ [⟨0, S.s.size, S.s.size⟩] := ht.trans (words_end S.s)
 have hl : S.ts.length = (wordsI S.s).length + 1 := by rw [e]; simp
 refine ⟨hs, by omega, fun t h => ?_, fun i hi => ?_, fun t h hk => ?_, hc, hg⟩
 ·rw [e] at h
  rcases List.mem_append.1 h with h | h
  ·have := h1 t h; exact ⟨by omega, this.2.1⟩
  ·obtain rfl := List.mem_singleton.1 h
   exact ⟨Nat.le_refl _, Nat.le_refl _⟩
 ·rcases Nat.lt_or_ge i (wordsI S.s).length with hlt | hge
  ·have e2 : S.ts[i] = (wordsI S.s)[i] := by simp only [e]; exact List.getElem_append_left hlt
   have := (h1 _ (List.getElem_mem hlt)).2.2
   rw [e2]
   exact ⟨fun h => absurd h this, fun h => by omega⟩
  ·have hi2 : i = (wordsI S.s).length := by omega
   have e2 : S.ts[i] = ⟨0, S.s.size, S.s.size⟩ := by
    simp only [e, hi2]
    rw [List.getElem_append_right (Nat.le_refl _)]
    simp
   rw [e2]
   exact ⟨fun _ => by omega, fun _ => rfl⟩
 ·rw [e] at h
  rcases List.mem_append.1 h with h | h
  ·exact absurd hk (h1 t h).2.2
  ·obtain rfl := List.mem_singleton.1 h
   rfl
end Go.Proofs.YtkjgkchdkeggoaaGreatDoor

namespace Go.Proofs.YtkjgkchdkeggoaaGreatDoor
open Go.RowKit
set_option maxRecDepth 20000
set_option linter.unusedVariables false
set_option linter.unusedSimpArgs false

theorem info63 : (Tryz.prog.info? 63).map (fun i => (i.zero, i.size, i.bytes)) = some (some (.int .i64 0), 1, 8) := by kernel_rfl
theorem as63 (x : Int) (w : World) : Sem.run Tryz.prog (Instr.typeAssert (.iface 63 (.int .i64 x)) 20 63 true) w = .ok (.tuple #[.int .i64 x, .bool true]) w := by
 simp [Instr.typeAssert, run_underlying Tryz.underlying63]
theorem as64 (x : Int) (w : World) : Sem.run Tryz.prog (Instr.typeAssert (.iface 64 (.int .i64 x)) 20 64 true) w = .ok (.tuple #[.int .i64 x, .bool true]) w := by
 simp [Instr.typeAssert, run_underlying Tryz.underlying64]
theorem as643 (x : Int) (w : World) : Sem.run Tryz.prog (Instr.typeAssert (.iface 64 (.int .i64 x)) 20 63 true) w = .ok (.tuple #[.int .i64 0, .bool false]) w := by
 obtain ⟨i0, hi0, hy0, hy1, hy2⟩ := info_parts info63
 simp [Instr.typeAssert, run_underlying Tryz.underlying63, zeroValue, hi0, hy0, typeInfo]
/-- The three results' boxes. -/
structure Res3 (w : World) (p0 p1 p2 : Nat) (k m f t : Int) (np : Option Addr) (nn nc : Nat) (kp : Option Addr) (kn kc : Nat) (a e : Int) : Prop where
 b : w.heap[p0]? = some (.cells #[.int .i64 k, .int .i64 m, .int .i64 f, .int .i64 t, .slice np nn nc, .slice kp kn kc] 26 (0, 0))
 a : w.heap[p1]? = some (.cells #[.int .i64 a] 3 (0, 0))
 e : w.heap[p2]? = some (.cells #[.int .i64 e] 27 (0, 0))
abbrev put6 (w : World) (p0 : Nat) (k m f t : Int) (np : Option Addr) (nn nc : Nat) (kp : Option Addr) (kn kc : Nat) : World :=
 ((((((w.setCell ⟨p0, 0, none⟩ (.int .i64 k)).setCell ⟨p0, 1, none⟩ (.int .i64 m)).setCell ⟨p0, 2, none⟩ (.int .i64 f)).setCell ⟨p0, 3, none⟩ (.int .i64 t)).setCell ⟨p0, 4, none⟩ (.slice np nn nc)).setCell ⟨p0, 5, none⟩ (.slice kp kn kc))

set_option maxHeartbeats 400000 in
theorem catch_idle (p0 p1 p2 : Nat) (w : World) :
  CallsD Tryz.prog 34 #[.pointer (some ⟨p0, 0, none⟩), .pointer (some ⟨p1, 0, none⟩), .pointer (some ⟨p2, 0, none⟩)] .returning w fun e u' w' => e = .returned (.tuple #[]) ∧ u' = .returning ∧ w' = w := by
 refine callsD_of_wpS Tryz.func34 rfl fun c₀ cs hu => ?_
 apply wpS_seq
 apply wpS_region
 simp [wpOpsS, go_sem, recoverD, hu, Tryz.ntmps34, Exit.thenS]
 simp only [Array.replicate_succ, Array.replicate_zero, List.push_toArray, List.append_toArray, List.nil_append, List.cons_append, List.setIfInBounds_toArray, List.set_cons_succ, List.set_cons_zero]
 refine wpS_of_wp ?_
 go_wp2
 cases c₀
 simp_all [bodyPostS, results, Tryz.results34]
set_option maxHeartbeats 400000 in
theorem catch_form (p0 p1 p2 : Nat) (k m f t : Int) (np : Option Addr) (nn nc : Nat) (kp : Option Addr) (kn kc : Nat) (a e x : Int) (w : World) (h : Res3 w p0 p1 p2 k m f t np nn nc kp kn kc a e) (h01 : p0 ≠ p1) (h02 : p0 ≠ p2) (h12 : p1 ≠ p2) :
  CallsD Tryz.prog 34 #[.pointer (some ⟨p0, 0, none⟩), .pointer (some ⟨p1, 0, none⟩), .pointer (some ⟨p2, 0, none⟩)] (.panicking [{ v := .iface 63 (.int .i64 x), recovered := false }]) w fun e u' w' =>
   e = .returned (.tuple #[]) ∧ u' = .panicking [{ v := .iface 63 (.int .i64 x), recovered := true }] ∧ w' = ((put6 w p0 0 0 0 0 none 0 0 none 0 0).setCell ⟨p1, 0, none⟩ (.int .i64 x)).setCell ⟨p2, 0, none⟩ (.int .i64 9) := by
 have hcb := Lib.cell_of_heap h.b
 have c0 := hcb 0
 have c1 := hcb 1
 have c2 := hcb 2
 have c3 := hcb 3
 have c4 := hcb 4
 have c5 := hcb 5
 have ca := Lib.cell_of_heap h.a 0
 have ce := Lib.cell_of_heap h.e 0
 simp only [List.getElem?_toArray, List.getElem?_cons_zero, List.getElem?_cons_succ] at c0 c1 c2 c3 c4 c5 ca ce
 have f0 : w.frozen? ⟨p0, 0, none⟩ = false := by simp [World.frozen?, h.b]
 have f1 : w.frozen? ⟨p0, 1, none⟩ = false := by simp [World.frozen?, h.b]
 have f2 : w.frozen? ⟨p0, 2, none⟩ = false := by simp [World.frozen?, h.b]
 have f3 : w.frozen? ⟨p0, 3, none⟩ = false := by simp [World.frozen?, h.b]
 have f4 : w.frozen? ⟨p0, 4, none⟩ = false := by simp [World.frozen?, h.b]
 have f5 : w.frozen? ⟨p0, 5, none⟩ = false := by simp [World.frozen?, h.b]
 have fa : w.frozen? ⟨p1, 0, none⟩ = false := by simp [World.frozen?, h.a]
 have fe : w.frozen? ⟨p2, 0, none⟩ = false := by simp [World.frozen?, h.e]
 have h10 : ¬ p1 = p0 := fun e => h01 e.symm
 have h20 : ¬ p2 = p0 := fun e => h02 e.symm
 have h21 : ¬ p2 = p1 := fun e => h12 e.symm
 clear hcb h
 have h63 := as63 x
 have h64 := as64 x
 have h643 := as643 x
 refine callsD_of_wpS Tryz.func34 rfl fun c₀ cs hu => ?_
 apply wpS_seq
 apply wpS_region
 simp [wpOpsS, go_sem, recoverD, hu, Tryz.ntmps34, Exit.thenS]
 simp only [Array.replicate_succ, Array.replicate_zero, List.push_toArray, List.append_toArray, List.nil_append, List.cons_append, List.setIfInBounds_toArray, List.set_cons_succ, List.set_cons_zero]
 refine wpS_of_wp ?_
 go_wp2
 cases c₀
 simp_all [bodyPostS, results, Tryz.results34]
set_option maxHeartbeats 400000 in
theorem catch_deep (p0 p1 p2 : Nat) (k m f t : Int) (np : Option Addr) (nn nc : Nat) (kp : Option Addr) (kn kc : Nat) (a e x : Int) (w : World) (h : Res3 w p0 p1 p2 k m f t np nn nc kp kn kc a e) (h01 : p0 ≠ p1) (h02 : p0 ≠ p2) (h12 : p1 ≠ p2) :
  CallsD Tryz.prog 34 #[.pointer (some ⟨p0, 0, none⟩), .pointer (some ⟨p1, 0, none⟩), .pointer (some ⟨p2, 0, none⟩)] (.panicking [{ v := .iface 64 (.int .i64 x), recovered := false }]) w fun e u' w' =>
   e = .returned (.tuple #[]) ∧ u' = .panicking [{ v := .iface 64 (.int .i64 x), recovered := true }] ∧ w' = ((put6 w p0 0 0 0 0 none 0 0 none 0 0).setCell ⟨p1, 0, none⟩ (.int .i64 x)).setCell ⟨p2, 0, none⟩ (.int .i64 6) := by
 have hcb := Lib.cell_of_heap h.b
 have c0 := hcb 0
 have c1 := hcb 1
 have c2 := hcb 2
 have c3 := hcb 3
 have c4 := hcb 4
 have c5 := hcb 5
 have ca := Lib.cell_of_heap h.a 0
 have ce := Lib.cell_of_heap h.e 0
 simp only [List.getElem?_toArray, List.getElem?_cons_zero, List.getElem?_cons_succ] at c0 c1 c2 c3 c4 c5 ca ce
 have f0 : w.frozen? ⟨p0, 0, none⟩ = false := by simp [World.frozen?, h.b]
 have f1 : w.frozen? ⟨p0, 1, none⟩ = false := by simp [World.frozen?, h.b]
 have f2 : w.frozen? ⟨p0, 2, none⟩ = false := by simp [World.frozen?, h.b]
 have f3 : w.frozen? ⟨p0, 3, none⟩ = false := by simp [World.frozen?, h.b]
 have f4 : w.frozen? ⟨p0, 4, none⟩ = false := by simp [World.frozen?, h.b]
 have f5 : w.frozen? ⟨p0, 5, none⟩ = false := by simp [World.frozen?, h.b]
 have fa : w.frozen? ⟨p1, 0, none⟩ = false := by simp [World.frozen?, h.a]
 have fe : w.frozen? ⟨p2, 0, none⟩ = false := by simp [World.frozen?, h.e]
 have h10 : ¬ p1 = p0 := fun e => h01 e.symm
 have h20 : ¬ p2 = p0 := fun e => h02 e.symm
 have h21 : ¬ p2 = p1 := fun e => h12 e.symm
 clear hcb h
 have h63 := as63 x
 have h64 := as64 x
 have h643 := as643 x
 refine callsD_of_wpS Tryz.func34 rfl fun c₀ cs hu => ?_
 apply wpS_seq
 apply wpS_region
 simp [wpOpsS, go_sem, recoverD, hu, Tryz.ntmps34, Exit.thenS]
 simp only [Array.replicate_succ, Array.replicate_zero, List.push_toArray, List.append_toArray, List.nil_append, List.cons_append, List.setIfInBounds_toArray, List.set_cons_succ, List.set_cons_zero]
 refine wpS_of_wp ?_
 go_wp2
 cases c₀
 simp_all [bodyPostS, results, Tryz.results34]
end Go.Proofs.YtkjgkchdkeggoaaGreatDoor

namespace Go.Proofs.YtkjgkchdkeggoaaGreatDoor
open Go.RowKit
set_option maxRecDepth 20000
set_option linter.unusedVariables false
set_option linter.unusedSimpArgs false

abbrev zeroV : Value := .agg #[.int .i64 0, .int .i64 0, .int .i64 0, .int .i64 0, .slice none 0 0, .slice none 0 0]
abbrev W3 (w : World) : World := ((w.alloc boxZ).alloc (.cells #[.int .i64 0] 3)).alloc (.cells #[.int .i64 0] 27)
section
variable {W W' : World} {p0 p1 p2 : Nat} {k m f t : Int} {np : Option Addr} {nn nc : Nat} {kp : Option Addr} {kn kc : Nat} {a e : Int}
theorem Res3.step (h : Res3 W p0 p1 p2 k m f t np nn nc kp kn kc a e) (hb : Below W.heap.size W W') : Res3 W' p0 p1 p2 k m f t np nn nc kp kn kc a e :=
 ⟨(hb.block _ (Array.getElem?_eq_some_iff.1 h.b).1).trans h.b, (hb.block _ (Array.getElem?_eq_some_iff.1 h.a).1).trans h.a, (hb.block _ (Array.getElem?_eq_some_iff.1 h.e).1).trans h.e⟩
theorem Res3.grow (h : Res3 W p0 p1 p2 k m f t np nn nc kp kn kc a e) {g : Nat} (hg : W.grownBy W' (some g)) (h0 : p0 ≠ g) (h1 : p1 ≠ g) (h2 : p2 ≠ g) : Res3 W' p0 p1 p2 k m f t np nn nc kp kn kc a e :=
 ⟨(hg.block _ (Array.getElem?_eq_some_iff.1 h.b).1 (fun e => h0 (Option.some.inj e))).trans h.b, (hg.block _ (Array.getElem?_eq_some_iff.1 h.a).1 (fun e => h1 (Option.some.inj e))).trans h.a, (hg.block _ (Array.getElem?_eq_some_iff.1 h.e).1 (fun e => h2 (Option.some.inj e))).trans h.e⟩
end
theorem below_new {w W W' : World} {g : Nat} (hb : Below w.heap.size w W) (hg : W.grownBy W' (some g)) (h : w.heap.size ≤ g) : Below w.heap.size w W' :=
 ⟨hg.os.trans hb.os, hg.tape.trans hb.tape, hg.output.trans hb.output, Nat.le_trans hb.size hg.size, fun j hj => (hg.block j (Nat.lt_of_lt_of_le hj hb.size) (fun e => by have := Option.some.inj e; omega)).trans (hb.block j hj)⟩
theorem res3_new (w : World) : Res3 (W3 w) w.heap.size (w.heap.size + 1) (w.heap.size + 1 + 1) 0 0 0 0 none 0 0 none 0 0 0 0 := by
 have h1 := heap_alloc_new (w.alloc boxZ) (.cells #[.int .i64 0] 3)
 have h2 := heap_alloc_new ((w.alloc boxZ).alloc (.cells #[.int .i64 0] 3)) (.cells #[.int .i64 0] 27)
 refine ⟨?_, ?_, ?_⟩
 ·rw [heap_alloc_old _ _ (by simp; omega), heap_alloc_old _ _ (by simp)]; exact heap_alloc_new w boxZ
 ·rw [heap_alloc_old _ _ (by simp)]; simpa using h1
 ·simpa using h2
theorem one_set {w : World} {g : Nat} {z : Value} {T : TypeId} (h : w.heap[g]? = some (.cells #[z] T (0, 0))) (u : Value) : (w.setCell ⟨g, 0, none⟩ u).heap[g]? = some (.cells #[u] T (0, 0)) := by
 rw [heap_setCell_same w g 0 _ _ u h]; rfl
/-- The results are written. -/
theorem res3_put {W : World} {p0 p1 p2 : Nat} {k m f t : Int} {np : Option Addr} {nn nc : Nat} {kp : Option Addr} {kn kc : Nat} {a e : Int} (h : Res3 W p0 p1 p2 k m f t np nn nc kp kn kc a e) (h01 : p0 ≠ p1) (h02 : p0 ≠ p2) (h12 : p1 ≠ p2)
  (k' m' f' t' : Int) (np' : Option Addr) (nn' nc' : Nat) (kp' : Option Addr) (kn' kc' : Nat) (a' e' : Int) :
  Res3 (((put6 W p0 k' m' f' t' np' nn' nc' kp' kn' kc').setCell ⟨p1, 0, none⟩ (.int .i64 a')).setCell ⟨p2, 0, none⟩ (.int .i64 e')) p0 p1 p2 k' m' f' t' np' nn' nc' kp' kn' kc' a' e' := by
 obtain ⟨hsix, hgs⟩ := six_set h.b (.int .i64 k') (.int .i64 m') (.int .i64 f') (.int .i64 t') (.slice np' nn' nc') (.slice kp' kn' kc')
 have ha := (hgs.block _ (Array.getElem?_eq_some_iff.1 h.a).1 (fun e => h01 (Option.some.inj e).symm)).trans h.a
 have he := (hgs.block _ (Array.getElem?_eq_some_iff.1 h.e).1 (fun e => h02 (Option.some.inj e).symm)).trans h.e
 refine ⟨?_, ?_, ?_⟩
 ·rw [Below.heap_setCell _ _ _ _ (by simp only; exact h02), Below.heap_setCell _ _ _ _ (by simp only; exact h01)]; exact hsix
 ·rw [Below.heap_setCell _ _ _ _ (by simp only; exact h12)]; exact one_set ha _
 ·exact one_set ((Below.heap_setCell _ _ _ _ (by simp only; exact fun e => h12 e.symm)).trans he) _
theorem grown_put {W : World} {N p0 p1 p2 : Nat} {w : World} {k m f t : Int} {np : Option Addr} {nn nc : Nat} {kp : Option Addr} {kn kc : Nat} {a e : Int} (hb : Below w.heap.size w W) (h0 : w.heap.size ≤ p0) (h1 : w.heap.size ≤ p1) (h2 : w.heap.size ≤ p2) :
  Below w.heap.size w (((put6 W p0 k m f t np nn nc kp kn kc).setCell ⟨p1, 0, none⟩ (.int .i64 a)).setCell ⟨p2, 0, none⟩ (.int .i64 e)) := by
 have g6 : W.grownBy (put6 W p0 k m f t np nn nc kp kn kc) (some p0) := grown_trans (grown_trans (grown_trans (grown_trans (grown_trans (grown_set _ _ _) (grown_set _ _ _)) (grown_set _ _ _)) (grown_set _ _ _)) (grown_set _ _ _)) (grown_set _ _ _)
 exact below_new (below_new (below_new hb g6 h0) (grown_set p1 0 _) h1) (grown_set p2 0 _) h2
theorem first_val (s : ByteArray) : firstT s (uptoN noBad (restT s 0)) = firstN s := by
 unfold firstN scanT
 apply firstT_upto
 intro t h
 unfold restT at h
 rw [List.dropLast_concat, List.drop_zero] at h
 exact ((scanF_in _ _ _).1 t h).2.2.2
theorem first_is (s : ByteArray) (hs : s.size ≤ 1000000) (w : World) (hk : Kw w) :
  Calls Tryz.prog 33 #[.string s] w fun e w' => e = .returned (.tuple #[.int .i64 (firstN s).1, .int .i64 (firstN s).2]) ∧ Below w.heap.size w w' := by
 have h := first_any s hs w hk
 rw [first_val] at h
 exact h
/-- What a text is, as one part. -/
def Said3 (s : ByteArray) (w : World) (o : Src → Out Pb) (e : Ending) (w' : World) : Prop := Below w.heap.size w w' ∧
 (((firstN s).2 ≠ 0 ∧ e = .returned (.tuple #[zeroV, .int .i64 (firstN s).1, .int .i64 (firstN s).2])) ∨
  ((firstN s).2 = 0 ∧ ∃ S : Src, S.s = s ∧ S.ts = wordsT s ∧ S.Good ∧
  ((∃ x n v, wholeO S (o S) = .ok x n ∧ e = .returned (.tuple #[v, .int .i64 0, .int .i64 0]) ∧ RB w x v w') ∨
   (∃ n, wholeO S (o S) = .form n ∧ e = .returned (.tuple #[zeroV, .int .i64 (S.pl n), .int .i64 9])) ∨
   (∃ n, wholeO S (o S) = .deep n ∧ e = .returned (.tuple #[zeroV, .int .i64 (S.pl n), .int .i64 6])))))

set_option maxHeartbeats 1000000 in
theorem whole_any (m : Nat) (hcf : ∀ args w, Sem.run Tryz.prog (callFunc m args) w = .ok (.enter m args) w) (o : Src → Out Pb) (s : ByteArray) (hs : s.size ≤ 1000000) (w : World) (hk : Kw w)
  (hread : ∀ S w', S.s = s → S.ts = wordsT s → Rd w' S 0 0 → o S ≠ .dry → Calls Tryz.prog m #[.pointer (some ⟨S.g, 0, none⟩)] w' fun e w'' => Ends S 0 w' (o S) (RB w') e w'')
  (hnd : ∀ S, S.s = s → S.ts = wordsT s → S.Good → o S ≠ .dry) :
  Calls Tryz.prog 22 #[.string s, .func (.func m) #[] #[]] w fun e w' => Said3 s w o e w' := by
 have hb3 : Below w.heap.size w (W3 w) := (((Below.refl _ _).alloc (Nat.le_refl _) _).alloc (by simp) _).alloc (by simp; omega) _
 have hk3 : Kw (W3 w) := ((hk.alloc _).alloc _).alloc _
 have HF : Hid (Calls Tryz.prog 33 #[.string s] (W3 w) fun e w' => e = .returned (.tuple #[.int .i64 (firstN s).1, .int .i64 (firstN s).2]) ∧ Below (W3 w).heap.size (W3 w) w') := Lib.hid (first_is s hs _ hk3)
 have HR3 := Lib.hid (res3_new w)
 have HB3 := Lib.hid hb3
 have HK3 := Lib.hid hk3
 have HRD := Lib.hid hread
 have HND := Lib.hid hnd
 have h01 : ¬ w.heap.size = w.heap.size + 1 := by omega
 have h02 : ¬ w.heap.size = w.heap.size + 1 + 1 := by omega
 have h12 : ¬ w.heap.size + 1 = w.heap.size + 1 + 1 := by omega
 have h10 : ¬ w.heap.size + 1 = w.heap.size := by omega
 have h20 : ¬ w.heap.size + 1 + 1 = w.heap.size := by omega
 have h21 : ¬ w.heap.size + 1 + 1 = w.heap.size + 1 := by omega
 have hmf : ∀ (fn : Fn) (first cap : Array Value) (w : World), (Instr.makeFunc fn first cap).run Tryz.prog w = .ok (.func fn first cap) w := fun _ _ _ _ => rfl
 have hz3 : (W3 w).heap.size = w.heap.size + 3 := by simp
 clear hb3 hk3 hk hread hnd
 obtain ⟨a0, ha0⟩ : ∃ a0, a0 = (firstN s).1 := ⟨_, rfl⟩
 obtain ⟨e0, he0⟩ : ∃ e0, e0 = (firstN s).2 := ⟨_, rfl⟩
 have HA0 := Lib.hid (And.intro ha0 he0)
 rw [← ha0, ← he0] at HF
 clear ha0 he0
 by_cases hez : e0 = 0
 ·subst hez
  go_enter_defers Tryz.func22, Tryz.ntmps22
  go_wp2_with fail
  refine HF.out.mono ?_
  rintro e w4 ⟨rfl, hb4⟩
  have HR4 := Lib.hid (HR3.out.step hb4)
  have HB4 := Lib.hid (HB3.out.trans (hb4.mono (by simp; omega)))
  have HZ4 : Hid (w.heap.size + 3 ≤ w4.heap.size) := Lib.hid (by have := hb4.size; omega)
  have HW := Lib.hid (words_any s hs w4 (HK3.out.step hb4))
  clear hb4 HF HR3 HK3 HB3
  go_wp2_with fail
  refine HW.out.mono ?_
  rintro e w5 ⟨v, rfl, htk, hb5⟩
  have hwl : 0 < (wordsT s).length := by rw [words_end]; simp
  obtain ⟨g, c, rfl, hlc, hcm, hgl, hcells⟩ := ToksAt.open htk hwl
  have HR5 := Lib.hid (HR4.out.step hb5)
  have HB5 := Lib.hid (HB4.out.trans (hb5.mono HB4.out.size))
  have hgp : g ≠ w.heap.size := by
   intro e
   obtain ⟨base, hown⟩ := htk
   rcases hown.2 with ⟨hv, _⟩ | ⟨g', c', cur, hv, _, hh, _⟩
   ·cases hv
   ·injection hv with e1 _ _
    have e2 := Option.some.inj e1
    injection e2 with e3 _ _
    rw [← e3, e, HR5.out.b] at hh
    injection hh with e4
    injection e4 with _ e5
    cases e5
  have HZ5 : Hid (w.heap.size + 3 ≤ w5.heap.size) := Lib.hid (by have := hb5.size; have := HZ4.out; omega)
  obtain ⟨wl, hwlq⟩ : ∃ wl, wl = (wordsT s).length := ⟨_, rfl⟩
  have hgood : Src.Good ⟨s, wordsT s, w5.heap.size, g, c⟩ := good_words _ hs rfl hlc (by simp only; omega)
  have hb6 : Below w5.heap.size w5 (w5.alloc (.cells #[.string s, .slice (some ⟨g, 0, none⟩) wl c, .int .i64 0, .int .i64 0] 66)) := (Below.refl _ _).alloc (Nat.le_refl _) _
  have hrd : Rd (w5.alloc (.cells #[.string s, .slice (some ⟨g, 0, none⟩) wl c, .int .i64 0, .int .i64 0] 66)) ⟨s, wordsT s, w5.heap.size, g, c⟩ 0 0 :=
   ⟨hgood, hwl, by rw [hwlq]; exact heap_alloc_new w5 _, Nat.lt_of_lt_of_le hgl hb6.size, hcells.step hgl hb6, by omega⟩
  have HX := Lib.hid (HRD.out _ _ rfl rfl hrd (HND.out _ rfl rfl hgood))
  have HGD := Lib.hid hgood
  have HR6 := Lib.hid (HR5.out.step hb6)
  have HB6 := Lib.hid (HB5.out.trans (hb6.mono HB5.out.size))
  rw [← hwlq]
  obtain ⟨S, hS⟩ : ∃ S : Src, S = ⟨s, wordsT s, w5.heap.size, g, c⟩ := ⟨_, rfl⟩
  have hSs : S.s = s := by rw [hS]
  have hSt : S.ts = wordsT s := by rw [hS]
  have hSg : S.g = w5.heap.size := by rw [hS]
  have hSw : S.gw < w5.heap.size := by rw [hS]; exact hgl
  rw [← hS] at HX HGD
  have HSS := Lib.hid (And.intro hSs (And.intro hSt HGD.out))
  have HGW : Hid (S.gw ≠ w.heap.size) := Lib.hid (by rw [hS]; exact hgp)
  have HZ6 : Hid (w.heap.size + 3 ≤ S.g) := Lib.hid (by rw [hSg]; exact HZ5.out)
  clear hb5 htk hcells hrd hgood hb6 HR4 HB4 HW HR5 HB5 HRD HND hS hSs hSt HGD hwlq hlc hcm hwl
  have hcfm := hcf #[.pointer (some ⟨w5.heap.size, 0, none⟩)]
  rw [hSg] at HX
  go_wp2_with fail
  refine HX.out.mono ?_
  rintro e w7 (⟨b, n7, v, hpo, rfl, ⟨y, hv, hyl, hyo, rfl⟩, hr7, hg7⟩ | ⟨ch, ho, rfl, hg7⟩)
  ·simp only [Hd.val] at hv
   subst hv
   have hr7' := hr7
   have HB7 := Lib.hid (below_new HB6.out hg7 (by have := HZ6.out; omega))
   have HR7 := Lib.hid (HR6.out.grow hg7 (by have := HZ6.out; omega) (by have := HZ6.out; omega) (by have := HZ6.out; omega))
   obtain ⟨hsix, hgs⟩ := six_set HR7.out.b (.int .i64 y.h.k) (.int .i64 y.h.m) (.int .i64 y.h.f) (.int .i64 y.h.t) (.slice y.h.np y.h.nn y.h.nc) (.slice y.h.kp y.h.kn y.h.kc)
   have hrd8 := hr7.grow hgs (fun e => by have := Option.some.inj e; have := HZ6.out; omega) (fun e => by have := Option.some.inj e; have := HGW.out; omega)
   have HKD := Lib.hid (rkind_any S n7 0 _ hrd8)
   rw [hSg] at HKD
   have HR8 : Hid (Res3 (sixC w7 w.heap.size y.h) w.heap.size (w.heap.size + 1) (w.heap.size + 1 + 1) y.h.k y.h.m y.h.f y.h.t y.h.np y.h.nn y.h.nc y.h.kp y.h.kn y.h.kc 0 0) := Lib.hid ⟨hsix, (hgs.block _ (Array.getElem?_eq_some_iff.1 HR7.out.a).1 (fun e => by have := Option.some.inj e; omega)).trans HR7.out.a, (hgs.block _ (Array.getElem?_eq_some_iff.1 HR7.out.e).1 (fun e => by have := Option.some.inj e; omega)).trans HR7.out.e⟩
   have HB8 : Hid (Below w.heap.size w (sixC w7 w.heap.size y.h)) := Lib.hid (below_new HB7.out hgs (Nat.le_refl _))
   have HYO : Hid (y.On fun q => S.g < q) := Lib.hid (hyo.mono (fun q hq => by simp only [World.size_alloc] at hq; omega) _)
   have HY8 : Hid (y.Lies (sixC w7 w.heap.size y.h)) := Lib.hid (Br.Lies.kept (P := fun q => S.g < q) y hgs.size (fun q hq hl => hgs.block q hl (fun e => by have := Option.some.inj e; have := HZ6.out; omega)) HYO.out hyl)
   have HRd8 := Lib.hid hrd8
   have HPO := Lib.hid hpo
   have hcb := Lib.cell_of_heap HR7.out.b
   have c0 := hcb 0
   have c1 := hcb 1
   have c2 := hcb 2
   have c3 := hcb 3
   have c4 := hcb 4
   have c5 := hcb 5
   have ca := Lib.cell_of_heap HR7.out.a 0
   have ce := Lib.cell_of_heap HR7.out.e 0
   simp only [List.getElem?_toArray, List.getElem?_cons_zero, List.getElem?_cons_succ] at c0 c1 c2 c3 c4 c5 ca ce
   have f0 := cells_frozen HR7.out.b 0
   have f1 := cells_frozen HR7.out.b 1
   have f2 := cells_frozen HR7.out.b 2
   have f3 := cells_frozen HR7.out.b 3
   have f4 := cells_frozen HR7.out.b 4
   have f5 := cells_frozen HR7.out.b 5
   have fa := cells_frozen HR7.out.a 0
   have fe := cells_frozen HR7.out.e 0
   clear hcb
   clear hsix hgs hrd8 hyl hyo hpo hr7 hg7 HX HR6 HB6 HR7 HB7 hr7'
   go_wp2_with fail
   refine HKD.out.mono ?_
   rintro e w9 ⟨rfl, hb9⟩
   have HR9 := Lib.hid (HR8.out.step hb9)
   have HB9 := Lib.hid (HB8.out.trans (hb9.mono HB8.out.size))
   have HY9 := Lib.hid (HY8.out.step _ hb9)
   have HRd9 := Lib.hid (HRd8.out.step hb9)
   clear hb9 HR8 HB8 HY8 HRd8 HKD c0 c1 c2 c3 c4 c5 ca ce f0 f1 f2 f3 f4 f5 fa fe
   cases hkd : (S.kd n7 == 0)
   ·have HE := Lib.hid (expect_no S n7 0 w9 HRd9.out)
    rw [hSg] at HE
    go_wp2_with fail
    refine HE.out.mono ?_
    rintro e w10 ⟨rfl, hb10⟩
    have HR10 := Lib.hid (HR9.out.step hb10)
    have HB10 := Lib.hid (HB9.out.trans (hb10.mono HB9.out.size))
    have HWO : Hid (wholeO S (o S) = .form n7) := Lib.hid (by rw [HPO.out]; unfold wholeO Out.bind; simp only [hkd]; rfl)
    refine (show bodyPostD Tryz.prog Tryz.f22 (fun e w' => Said3 s w o e w') (.panic [{ v := .iface 63 (.int .i64 (S.pl n7)), recovered := false }]) _ w10 from ?_)
    refine leaves_cons (f := 34) (args := #[.pointer (some ⟨w.heap.size, 0, none⟩), .pointer (some ⟨w.heap.size + 1, 0, none⟩), .pointer (some ⟨w.heap.size + 1 + 1, 0, none⟩)]) (by simp) (by simp [go_sem]) ?_
    refine (catch_form w.heap.size (w.heap.size + 1) (w.heap.size + 1 + 1) _ _ _ _ _ _ _ _ _ _ _ _ (S.pl n7) w10 HR10.out h01 h02 h12).mono ?_
    rintro e u' w11 ⟨rfl, rfl, rfl⟩
    have HP := res3_put HR10.out h01 h02 h12 0 0 0 0 none 0 0 none 0 0 (S.pl n7) 9
    have hcb := Lib.cell_of_heap HP.b
    have d0 := hcb 0
    have d1 := hcb 1
    have d2 := hcb 2
    have d3 := hcb 3
    have d4 := hcb 4
    have d5 := hcb 5
    have da := Lib.cell_of_heap HP.a 0
    have de := Lib.cell_of_heap HP.e 0
    simp only [List.getElem?_toArray, List.getElem?_cons_zero, List.getElem?_cons_succ] at d0 d1 d2 d3 d4 d5 da de
    clear hcb
    refine ⟨.tuple #[zeroV, .int .i64 (S.pl n7), .int .i64 9], by simp [results, Tryz.results22, go_sem, d0, d1, d2, d3, d4, d5, da, de, Result.andThen]; try rfl, ?_⟩
    exact ⟨grown_put (N := 0) HB10.out (Nat.le_refl _) (by omega) (by omega), Or.inr ⟨HA0.out.2.symm, S, HSS.out.1, HSS.out.2.1, HSS.out.2.2, Or.inr (Or.inl ⟨n7, HWO.out, rfl⟩)⟩⟩
   ·have HE := Lib.hid (expect_yes S n7 0 w9 HRd9.out)
    rw [hSg] at HE
    go_wp2_with fail
    refine HE.out.mono ?_
    rintro e w10 ⟨rfl, rfl⟩
    have hcb := Lib.cell_of_heap HR9.out.b
    have c0 := hcb 0
    have c1 := hcb 1
    have c2 := hcb 2
    have c3 := hcb 3
    have c4 := hcb 4
    have c5 := hcb 5
    have ca := Lib.cell_of_heap HR9.out.a 0
    have ce := Lib.cell_of_heap HR9.out.e 0
    simp only [List.getElem?_toArray, List.getElem?_cons_zero, List.getElem?_cons_succ] at c0 c1 c2 c3 c4 c5 ca ce
    have f0 := cells_frozen HR9.out.b 0
    have f1 := cells_frozen HR9.out.b 1
    have f2 := cells_frozen HR9.out.b 2
    have f3 := cells_frozen HR9.out.b 3
    have f4 := cells_frozen HR9.out.b 4
    have f5 := cells_frozen HR9.out.b 5
    have fa := cells_frozen HR9.out.a 0
    have fe := cells_frozen HR9.out.e 0
    clear hcb
    go_wp2_with fail
    have HWO : Hid (wholeO S (o S) = .ok y.pb n7) := Lib.hid (by rw [HPO.out]; unfold wholeO Out.bind; simp only [hkd]; rfl)
    refine leaves_cons (f := 34) (args := #[.pointer (some ⟨w.heap.size, 0, none⟩), .pointer (some ⟨w.heap.size + 1, 0, none⟩), .pointer (some ⟨w.heap.size + 1 + 1, 0, none⟩)]) (by simp) (by simp [go_sem]) ?_
    refine (catch_idle w.heap.size (w.heap.size + 1) (w.heap.size + 1 + 1) _).mono ?_
    rintro e u' w11 ⟨rfl, rfl, rfl⟩
    have HP := res3_put HR9.out h01 h02 h12 y.h.k y.h.m y.h.f y.h.t y.h.np y.h.nn y.h.nc y.h.kp y.h.kn y.h.kc 0 0
    have hcb := Lib.cell_of_heap HP.b
    have d0 := hcb 0
    have d1 := hcb 1
    have d2 := hcb 2
    have d3 := hcb 3
    have d4 := hcb 4
    have d5 := hcb 5
    have da := Lib.cell_of_heap HP.a 0
    have de := Lib.cell_of_heap HP.e 0
    simp only [List.getElem?_toArray, List.getElem?_cons_zero, List.getElem?_cons_succ] at d0 d1 d2 d3 d4 d5 da de
    clear hcb
    refine ⟨.tuple #[.agg #[.int .i64 y.h.k, .int .i64 y.h.m, .int .i64 y.h.f, .int .i64 y.h.t, .slice y.h.np y.h.nn y.h.nc, .slice y.h.kp y.h.kn y.h.kc], .int .i64 0, .int .i64 0], by simp [results, Tryz.results22, go_sem, d0, d1, d2, d3, d4, d5, da, de, Result.andThen]; try rfl, ?_⟩
    refine ⟨grown_put (N := 0) HB9.out (Nat.le_refl _) (by omega) (by omega), Or.inr ⟨HA0.out.2.symm, S, HSS.out.1, HSS.out.2.1, HSS.out.2.2, Or.inl ⟨y.pb, n7, _, HWO.out, rfl, y, rfl, ?_, HYO.out.mono (fun q hq => by have := HZ6.out; omega) _, rfl⟩⟩⟩
    exact Br.Lies.kept (P := fun q => S.g < q) y (by simp) (fun q hq hl => by
     have := HZ6.out
     rw [Below.heap_setCell _ _ _ _ (by simp only; omega), Below.heap_setCell _ _ _ _ (by simp only; omega)]
     rw [Below.heap_setCell _ _ _ _ (by simp only; omega), Below.heap_setCell _ _ _ _ (by simp only; omega), Below.heap_setCell _ _ _ _ (by simp only; omega), Below.heap_setCell _ _ _ _ (by simp only; omega), Below.heap_setCell _ _ _ _ (by simp only; omega), Below.heap_setCell _ _ _ _ (by simp only; omega)]) HYO.out HY9.out
  ·have HR10 := Lib.hid (HR6.out.grow hg7 (by have := HZ6.out; omega) (by have := HZ6.out; omega) (by have := HZ6.out; omega))
   have HB10 := Lib.hid (below_new HB6.out hg7 (by have := HZ6.out; omega))
   clear hg7 HX HR6 HB6
   cases hoS : o S with
   | ok x n => rw [hoS] at ho; cases ho
   | dry => rw [hoS] at ho; cases ho
   | form n =>
    rw [hoS] at ho
    have ho := Option.some.inj ho
    subst ho
    have HWO : Hid (wholeO S (o S) = .form n) := Lib.hid (by rw [hoS]; rfl)
    refine (show bodyPostD Tryz.prog Tryz.f22 (fun e w' => Said3 s w o e w') (.panic [{ v := .iface 63 (.int .i64 (S.pl n)), recovered := false }]) _ w7 from ?_)
    refine leaves_cons (f := 34) (args := #[.pointer (some ⟨w.heap.size, 0, none⟩), .pointer (some ⟨w.heap.size + 1, 0, none⟩), .pointer (some ⟨w.heap.size + 1 + 1, 0, none⟩)]) (by simp) (by simp [go_sem]) ?_
    refine (catch_form w.heap.size (w.heap.size + 1) (w.heap.size + 1 + 1) _ _ _ _ _ _ _ _ _ _ _ _ (S.pl n) w7 HR10.out h01 h02 h12).mono ?_
    rintro e u' w11 ⟨rfl, rfl, rfl⟩
    have HP := res3_put HR10.out h01 h02 h12 0 0 0 0 none 0 0 none 0 0 (S.pl n) 9
    have hcb := Lib.cell_of_heap HP.b
    have d0 := hcb 0
    have d1 := hcb 1
    have d2 := hcb 2
    have d3 := hcb 3
    have d4 := hcb 4
    have d5 := hcb 5
    have da := Lib.cell_of_heap HP.a 0
    have de := Lib.cell_of_heap HP.e 0
    simp only [List.getElem?_toArray, List.getElem?_cons_zero, List.getElem?_cons_succ] at d0 d1 d2 d3 d4 d5 da de
    clear hcb
    refine ⟨.tuple #[zeroV, .int .i64 (S.pl n), .int .i64 9], by simp [results, Tryz.results22, go_sem, d0, d1, d2, d3, d4, d5, da, de, Result.andThen]; try rfl, ?_⟩
    exact ⟨grown_put (N := 0) HB10.out (Nat.le_refl _) (by omega) (by omega), Or.inr ⟨HA0.out.2.symm, S, HSS.out.1, HSS.out.2.1, HSS.out.2.2, Or.inr (Or.inl ⟨n, HWO.out, rfl⟩)⟩⟩
   | deep n =>
    rw [hoS] at ho
    have ho := Option.some.inj ho
    subst ho
    have HWO : Hid (wholeO S (o S) = .deep n) := Lib.hid (by rw [hoS]; rfl)
    refine (show bodyPostD Tryz.prog Tryz.f22 (fun e w' => Said3 s w o e w') (.panic [{ v := .iface 64 (.int .i64 (S.pl n)), recovered := false }]) _ w7 from ?_)
    refine leaves_cons (f := 34) (args := #[.pointer (some ⟨w.heap.size, 0, none⟩), .pointer (some ⟨w.heap.size + 1, 0, none⟩), .pointer (some ⟨w.heap.size + 1 + 1, 0, none⟩)]) (by simp) (by simp [go_sem]) ?_
    refine (catch_deep w.heap.size (w.heap.size + 1) (w.heap.size + 1 + 1) _ _ _ _ _ _ _ _ _ _ _ _ (S.pl n) w7 HR10.out h01 h02 h12).mono ?_
    rintro e u' w11 ⟨rfl, rfl, rfl⟩
    have HP := res3_put HR10.out h01 h02 h12 0 0 0 0 none 0 0 none 0 0 (S.pl n) 6
    have hcb := Lib.cell_of_heap HP.b
    have d0 := hcb 0
    have d1 := hcb 1
    have d2 := hcb 2
    have d3 := hcb 3
    have d4 := hcb 4
    have d5 := hcb 5
    have da := Lib.cell_of_heap HP.a 0
    have de := Lib.cell_of_heap HP.e 0
    simp only [List.getElem?_toArray, List.getElem?_cons_zero, List.getElem?_cons_succ] at d0 d1 d2 d3 d4 d5 da de
    clear hcb
    refine ⟨.tuple #[zeroV, .int .i64 (S.pl n), .int .i64 6], by simp [results, Tryz.results22, go_sem, d0, d1, d2, d3, d4, d5, da, de, Result.andThen]; try rfl, ?_⟩
    exact ⟨grown_put (N := 0) HB10.out (Nat.le_refl _) (by omega) (by omega), Or.inr ⟨HA0.out.2.symm, S, HSS.out.1, HSS.out.2.1, HSS.out.2.2, Or.inr (Or.inr ⟨n, HWO.out, rfl⟩)⟩⟩
 ·have hne : (e0 != 0) = true := by simpa using hez
  go_enter_defers Tryz.func22, Tryz.ntmps22
  go_wp2_with fail
  refine HF.out.mono ?_
  rintro e w4 ⟨rfl, hb4⟩
  have HR4 := Lib.hid (HR3.out.step hb4)
  have HB4 := Lib.hid (HB3.out.trans (hb4.mono (by simp; omega)))
  clear hb4 HF HR3 HK3 HRD HND HB3
  have hcb := Lib.cell_of_heap HR4.out.b
  have c0 := hcb 0
  have c1 := hcb 1
  have c2 := hcb 2
  have c3 := hcb 3
  have c4 := hcb 4
  have c5 := hcb 5
  have ca := Lib.cell_of_heap HR4.out.a 0
  have ce := Lib.cell_of_heap HR4.out.e 0
  simp only [List.getElem?_toArray, List.getElem?_cons_zero, List.getElem?_cons_succ] at c0 c1 c2 c3 c4 c5 ca ce
  have f0 := cells_frozen HR4.out.b 0
  have f1 := cells_frozen HR4.out.b 1
  have f2 := cells_frozen HR4.out.b 2
  have f3 := cells_frozen HR4.out.b 3
  have f4 := cells_frozen HR4.out.b 4
  have f5 := cells_frozen HR4.out.b 5
  have fa := cells_frozen HR4.out.a 0
  have fe := cells_frozen HR4.out.e 0
  clear hcb
  go_wp2_with fail
  have HP := res3_put HR4.out h01 h02 h12 0 0 0 0 none 0 0 none 0 0 a0 e0
  have hcb := Lib.cell_of_heap HP.b
  have d0 := hcb 0
  have d1 := hcb 1
  have d2 := hcb 2
  have d3 := hcb 3
  have d4 := hcb 4
  have d5 := hcb 5
  have da := Lib.cell_of_heap HP.a 0
  have de := Lib.cell_of_heap HP.e 0
  simp only [List.getElem?_toArray, List.getElem?_cons_zero, List.getElem?_cons_succ] at d0 d1 d2 d3 d4 d5 da de
  clear hcb
  refine ⟨.tuple #[zeroV, .int .i64 a0, .int .i64 e0], by simp [results, Tryz.results22, go_sem, d0, d1, d2, d3, d4, d5, da, de, Result.andThen]; try rfl, ?_⟩
  refine ⟨grown_put (N := 0) HB4.out (Nat.le_refl _) (by omega) (by omega), Or.inl ⟨?_, ?_⟩⟩
  ·rw [← HA0.out.2]; exact hez
  ·rw [← HA0.out.1, ← HA0.out.2]
end Go.Proofs.YtkjgkchdkeggoaaGreatDoor

namespace Go.Proofs.YtkjgkchdkeggoaaGreatDoor
open Go.RowKit
set_option maxRecDepth 20000
set_option linter.unusedVariables false
set_option linter.unusedSimpArgs false

theorem Said3.form {s : ByteArray} {w : World} {o : Src → Out Pb} {e : Ending} {w' : World} (h : Said3 s w o e w') : ∃ (k m f t : Int) (np : Option Addr) (nn nc : Nat) (kp : Option Addr) (kn kc : Nat) (a c : Int), e = .returned (.tuple #[.agg #[.int .i64 k, .int .i64 m, .int .i64 f, .int .i64 t, .slice np nn nc, .slice kp kn kc], .int .i64 a, .int .i64 c]) := by
 obtain ⟨_, ⟨_, he⟩ | ⟨_, S, _, _, _, ⟨x, n, v, _, he, y, hv, _⟩ | ⟨n, _, he⟩ | ⟨n, _, he⟩⟩⟩ := h
 ·exact ⟨_, _, _, _, _, _, _, _, _, _, _, _, he⟩
 ·subst hv; exact ⟨_, _, _, _, _, _, _, _, _, _, _, _, he⟩
 ·exact ⟨_, _, _, _, _, _, _, _, _, _, _, _, he⟩
 ·exact ⟨_, _, _, _, _, _, _, _, _, _, _, _, he⟩
/-- What was said of a world with a box more stands when the box is written. -/
theorem Said3.moved {s : ByteArray} {w : World} {o : Src → Out Pb} {e : Ending} {w' w2 : World} (h : Said3 s (w.alloc boxZ) o e w') (hg : w'.grownBy w2 (some w.heap.size)) : Said3 s w o e w2 := by
 obtain ⟨hb, hc⟩ := h
 have hb1 : Below w.heap.size w (w.alloc boxZ) := (Below.refl w.heap.size w).alloc (Nat.le_refl _) _
 refine ⟨below_new (hb1.trans (hb.mono (by simp))) hg (Nat.le_refl _), ?_⟩
 rcases hc with h | ⟨h0, S, h1, h2, h3, ⟨x, n, v, h4, h5, y, h6, h7, h8, h9⟩ | h | h⟩
 ·exact Or.inl h
 ·refine Or.inr ⟨h0, S, h1, h2, h3, Or.inl ⟨x, n, v, h4, h5, y, h6, ?_, h8.mono (fun q hq => by simp only [World.size_alloc] at hq; omega) _, h9⟩⟩
  exact Br.Lies.kept (P := fun q => (w.alloc boxZ).heap.size ≤ q) y hg.size (fun q hq hl => hg.block q hl (fun e => by have := Option.some.inj e; simp only [World.size_alloc] at hq; omega)) h8 h7
 ·exact Or.inr ⟨h0, S, h1, h2, h3, Or.inr (Or.inl h)⟩
 ·exact Or.inr ⟨h0, S, h1, h2, h3, Or.inr (Or.inr h)⟩
theorem grown_put6 (W : World) (p0 : Nat) (k m f t : Int) (np : Option Addr) (nn nc : Nat) (kp : Option Addr) (kn kc : Nat) : W.grownBy (put6 W p0 k m f t np nn nc kp kn kc) (some p0) := grown_trans (grown_trans (grown_trans (grown_trans (grown_trans (grown_set _ _ _) (grown_set _ _ _)) (grown_set _ _ _)) (grown_set _ _ _)) (grown_set _ _ _)) (grown_set _ _ _)
/-- The parser's fuel. -/
def fuel (S : Src) : Nat := S.ts.length + 257
theorem fuel_le {S : Src} (h : S.Good) : fuel S ≤ 1000000000 := by have := h.len; unfold fuel; omega
def fileS (S : Src) : Out Pb := fileO S (fuel S) 0
def partS (nt : Nt) (S : Src) : Out Pb := parts S (fuel S) nt 0 0
theorem pos_of (S : Src) (h : S.ts = wordsT S.s) : 0 < S.ts.length := by rw [h, words_end]; simp
theorem fileS_nd (S : Src) (ht : S.ts = wordsT S.s) (h : S.Good) : fileS S ≠ .dry := (fileO_fin h (F := fuel S) (Nat.le_refl _) (pos_of S ht)).nd
theorem partS_nd (nt : Nt) (hnt : ∀ S : Src, S.may nt 0) (S : Src) (ht : S.ts = wordsT S.s) (h : S.Good) : partS nt S ≠ .dry := (parts_fin h (fuel S) nt 0 0 (by omega) (pos_of S ht) (hnt S) (by unfold fuel; omega)).nd
theorem cfe23 (args : Array Value) (w : World) : Sem.run Tryz.prog (callFunc 23 args) w = .ok (.enter 23 args) w := cf_enter Tryz.func23 (by kernel_rfl) (by kernel_rfl) args w
theorem whole_file (s : ByteArray) (hs : s.size ≤ 1000000) (w : World) (hk : Kw w) : Calls Tryz.prog 22 #[.string s, .func (.func 23) #[] #[]] w fun e w' => Said3 s w fileS e w' :=
 whole_any 23 cfe23 fileS s hs w hk (fun S w' h1 h2 hr hnd => file_read S (fuel S) (fuel_le hr.good) 0 w' hr hnd) (fun S h1 h2 hg => fileS_nd S (by rw [h2, h1]) hg)
theorem cfe31 (args : Array Value) (w : World) : Sem.run Tryz.prog (callFunc 31 args) w = .ok (.enter 31 args) w := cf_enter Tryz.func31 (by kernel_rfl) (by kernel_rfl) args w
theorem whole_ty (s : ByteArray) (hs : s.size ≤ 1000000) (w : World) (hk : Kw w) : Calls Tryz.prog 22 #[.string s, .func (.func 31) #[] #[]] w fun e w' => Said3 s w (partS .ty) e w' :=
 whole_any 31 cfe31 (partS .ty) s hs w hk (fun S w' h1 h2 hr hnd => (said_all S (fuel S) (fuel_le hr.good) 0).ty 0 w' hr hnd) (fun S h1 h2 hg => partS_nd .ty (fun _ => trivial) S (by rw [h2, h1]) hg)
theorem cfe32 (args : Array Value) (w : World) : Sem.run Tryz.prog (callFunc 32 args) w = .ok (.enter 32 args) w := cf_enter Tryz.func32 (by kernel_rfl) (by kernel_rfl) args w
theorem whole_exp (s : ByteArray) (hs : s.size ≤ 1000000) (w : World) (hk : Kw w) : Calls Tryz.prog 22 #[.string s, .func (.func 32) #[] #[]] w fun e w' => Said3 s w (partS .exp) e w' :=
 whole_any 32 cfe32 (partS .exp) s hs w hk (fun S w' h1 h2 hr hnd => (said_all S (fuel S) (fuel_le hr.good) 0).exp 0 w' hr hnd) (fun S h1 h2 hg => partS_nd .exp (fun _ => trivial) S (by rw [h2, h1]) hg)
theorem cfe41 (args : Array Value) (w : World) : Sem.run Tryz.prog (callFunc 41 args) w = .ok (.enter 41 args) w := cf_enter Tryz.func41 (by kernel_rfl) (by kernel_rfl) args w
theorem whole_pat (s : ByteArray) (hs : s.size ≤ 1000000) (w : World) (hk : Kw w) : Calls Tryz.prog 22 #[.string s, .func (.func 41) #[] #[]] w fun e w' => Said3 s w (partS .pat) e w' :=
 whole_any 41 cfe41 (partS .pat) s hs w hk (fun S w' h1 h2 hr hnd => (said_all S (fuel S) (fuel_le hr.good) 0).pat 0 w' hr hnd) (fun S h1 h2 hg => partS_nd .pat (fun _ => trivial) S (by rw [h2, h1]) hg)
theorem cfe42 (args : Array Value) (w : World) : Sem.run Tryz.prog (callFunc 42 args) w = .ok (.enter 42 args) w := cf_enter Tryz.func42 (by kernel_rfl) (by kernel_rfl) args w
theorem whole_sig (s : ByteArray) (hs : s.size ≤ 1000000) (w : World) (hk : Kw w) : Calls Tryz.prog 22 #[.string s, .func (.func 42) #[] #[]] w fun e w' => Said3 s w (partS .sig) e w' :=
 whole_any 42 cfe42 (partS .sig) s hs w hk (fun S w' h1 h2 hr hnd => (said_all S (fuel S) (fuel_le hr.good) 0).sig 0 w' hr hnd) (fun S h1 h2 hg => partS_nd .sig (fun _ => trivial) S (by rw [h2, h1]) hg)
set_option maxHeartbeats 1000000 in
theorem parse_file (s : ByteArray) (hs : s.size ≤ 1000000) (w : World) (hk : Kw w) : Calls Tryz.prog 8 #[.string s] w fun e w' => Said3 s w fileS e w' := by
 have HW := Lib.hid (whole_file s hs (w.alloc boxZ) (hk.alloc _))
 have HB := Lib.hid (heap_alloc_new w boxZ)
 clear hk
 go_enter Tryz.func8, Tryz.ntmps8
 go_wp2_with fail
 refine HW.out.mono ?_
 intro e w2 hsd
 obtain ⟨k, m, f, t, np, nn, nc, kp, kn, kc, a, c, rfl⟩ := hsd.form
 have HX := Lib.hid ((hsd.1.block w.heap.size (by simp)).trans HB.out)
 have HS := Lib.hid hsd
 clear hsd HW HB
 have hcb := Lib.cell_of_heap HX.out
 have c0 := hcb 0
 have c1 := hcb 1
 have c2 := hcb 2
 have c3 := hcb 3
 have c4 := hcb 4
 have c5 := hcb 5
 simp only [List.getElem?_toArray, List.getElem?_cons_zero, List.getElem?_cons_succ] at c0 c1 c2 c3 c4 c5
 have f0 := cells_frozen HX.out 0
 have f1 := cells_frozen HX.out 1
 have f2 := cells_frozen HX.out 2
 have f3 := cells_frozen HX.out 3
 have f4 := cells_frozen HX.out 4
 have f5 := cells_frozen HX.out 5
 clear hcb
 go_wp2_with fail
 have HP := (six_set HX.out (.int .i64 k) (.int .i64 m) (.int .i64 f) (.int .i64 t) (.slice np nn nc) (.slice kp kn kc)).1
 have hcb := Lib.cell_of_heap HP
 have d0 := hcb 0
 have d1 := hcb 1
 have d2 := hcb 2
 have d3 := hcb 3
 have d4 := hcb 4
 have d5 := hcb 5
 simp only [List.getElem?_toArray, List.getElem?_cons_zero, List.getElem?_cons_succ] at d0 d1 d2 d3 d4 d5
 clear hcb
 refine bodyPost_ret (by simp [results, Tryz.results8, go_sem, d0, d1, d2, d3, d4, d5, Result.andThen]; try rfl) rfl ?_
 exact HS.out.moved (grown_put6 _ _ _ _ _ _ _ _ _ _ _ _)
set_option maxHeartbeats 1000000 in
theorem parse_ty (s : ByteArray) (hs : s.size ≤ 1000000) (w : World) (hk : Kw w) : Calls Tryz.prog 20 #[.string s] w fun e w' => Said3 s w (partS .ty) e w' := by
 have HW := Lib.hid (whole_ty s hs (w.alloc boxZ) (hk.alloc _))
 have HB := Lib.hid (heap_alloc_new w boxZ)
 clear hk
 go_enter Tryz.func20, Tryz.ntmps20
 go_wp2_with fail
 refine HW.out.mono ?_
 intro e w2 hsd
 obtain ⟨k, m, f, t, np, nn, nc, kp, kn, kc, a, c, rfl⟩ := hsd.form
 have HX := Lib.hid ((hsd.1.block w.heap.size (by simp)).trans HB.out)
 have HS := Lib.hid hsd
 clear hsd HW HB
 have hcb := Lib.cell_of_heap HX.out
 have c0 := hcb 0
 have c1 := hcb 1
 have c2 := hcb 2
 have c3 := hcb 3
 have c4 := hcb 4
 have c5 := hcb 5
 simp only [List.getElem?_toArray, List.getElem?_cons_zero, List.getElem?_cons_succ] at c0 c1 c2 c3 c4 c5
 have f0 := cells_frozen HX.out 0
 have f1 := cells_frozen HX.out 1
 have f2 := cells_frozen HX.out 2
 have f3 := cells_frozen HX.out 3
 have f4 := cells_frozen HX.out 4
 have f5 := cells_frozen HX.out 5
 clear hcb
 go_wp2_with fail
 have HP := (six_set HX.out (.int .i64 k) (.int .i64 m) (.int .i64 f) (.int .i64 t) (.slice np nn nc) (.slice kp kn kc)).1
 have hcb := Lib.cell_of_heap HP
 have d0 := hcb 0
 have d1 := hcb 1
 have d2 := hcb 2
 have d3 := hcb 3
 have d4 := hcb 4
 have d5 := hcb 5
 simp only [List.getElem?_toArray, List.getElem?_cons_zero, List.getElem?_cons_succ] at d0 d1 d2 d3 d4 d5
 clear hcb
 refine bodyPost_ret (by simp [results, Tryz.results20, go_sem, d0, d1, d2, d3, d4, d5, Result.andThen]; try rfl) rfl ?_
 exact HS.out.moved (grown_put6 _ _ _ _ _ _ _ _ _ _ _ _)
set_option maxHeartbeats 1000000 in
theorem parse_exp (s : ByteArray) (hs : s.size ≤ 1000000) (w : World) (hk : Kw w) : Calls Tryz.prog 21 #[.string s] w fun e w' => Said3 s w (partS .exp) e w' := by
 have HW := Lib.hid (whole_exp s hs (w.alloc boxZ) (hk.alloc _))
 have HB := Lib.hid (heap_alloc_new w boxZ)
 clear hk
 go_enter Tryz.func21, Tryz.ntmps21
 go_wp2_with fail
 refine HW.out.mono ?_
 intro e w2 hsd
 obtain ⟨k, m, f, t, np, nn, nc, kp, kn, kc, a, c, rfl⟩ := hsd.form
 have HX := Lib.hid ((hsd.1.block w.heap.size (by simp)).trans HB.out)
 have HS := Lib.hid hsd
 clear hsd HW HB
 have hcb := Lib.cell_of_heap HX.out
 have c0 := hcb 0
 have c1 := hcb 1
 have c2 := hcb 2
 have c3 := hcb 3
 have c4 := hcb 4
 have c5 := hcb 5
 simp only [List.getElem?_toArray, List.getElem?_cons_zero, List.getElem?_cons_succ] at c0 c1 c2 c3 c4 c5
 have f0 := cells_frozen HX.out 0
 have f1 := cells_frozen HX.out 1
 have f2 := cells_frozen HX.out 2
 have f3 := cells_frozen HX.out 3
 have f4 := cells_frozen HX.out 4
 have f5 := cells_frozen HX.out 5
 clear hcb
 go_wp2_with fail
 have HP := (six_set HX.out (.int .i64 k) (.int .i64 m) (.int .i64 f) (.int .i64 t) (.slice np nn nc) (.slice kp kn kc)).1
 have hcb := Lib.cell_of_heap HP
 have d0 := hcb 0
 have d1 := hcb 1
 have d2 := hcb 2
 have d3 := hcb 3
 have d4 := hcb 4
 have d5 := hcb 5
 simp only [List.getElem?_toArray, List.getElem?_cons_zero, List.getElem?_cons_succ] at d0 d1 d2 d3 d4 d5
 clear hcb
 refine bodyPost_ret (by simp [results, Tryz.results21, go_sem, d0, d1, d2, d3, d4, d5, Result.andThen]; try rfl) rfl ?_
 exact HS.out.moved (grown_put6 _ _ _ _ _ _ _ _ _ _ _ _)
set_option maxHeartbeats 1000000 in
theorem parse_pat (s : ByteArray) (hs : s.size ≤ 1000000) (w : World) (hk : Kw w) : Calls Tryz.prog 29 #[.string s] w fun e w' => Said3 s w (partS .pat) e w' := by
 have HW := Lib.hid (whole_pat s hs (w.alloc boxZ) (hk.alloc _))
 have HB := Lib.hid (heap_alloc_new w boxZ)
 clear hk
 go_enter Tryz.func29, Tryz.ntmps29
 go_wp2_with fail
 refine HW.out.mono ?_
 intro e w2 hsd
 obtain ⟨k, m, f, t, np, nn, nc, kp, kn, kc, a, c, rfl⟩ := hsd.form
 have HX := Lib.hid ((hsd.1.block w.heap.size (by simp)).trans HB.out)
 have HS := Lib.hid hsd
 clear hsd HW HB
 have hcb := Lib.cell_of_heap HX.out
 have c0 := hcb 0
 have c1 := hcb 1
 have c2 := hcb 2
 have c3 := hcb 3
 have c4 := hcb 4
 have c5 := hcb 5
 simp only [List.getElem?_toArray, List.getElem?_cons_zero, List.getElem?_cons_succ] at c0 c1 c2 c3 c4 c5
 have f0 := cells_frozen HX.out 0
 have f1 := cells_frozen HX.out 1
 have f2 := cells_frozen HX.out 2
 have f3 := cells_frozen HX.out 3
 have f4 := cells_frozen HX.out 4
 have f5 := cells_frozen HX.out 5
 clear hcb
 go_wp2_with fail
 have HP := (six_set HX.out (.int .i64 k) (.int .i64 m) (.int .i64 f) (.int .i64 t) (.slice np nn nc) (.slice kp kn kc)).1
 have hcb := Lib.cell_of_heap HP
 have d0 := hcb 0
 have d1 := hcb 1
 have d2 := hcb 2
 have d3 := hcb 3
 have d4 := hcb 4
 have d5 := hcb 5
 simp only [List.getElem?_toArray, List.getElem?_cons_zero, List.getElem?_cons_succ] at d0 d1 d2 d3 d4 d5
 clear hcb
 refine bodyPost_ret (by simp [results, Tryz.results29, go_sem, d0, d1, d2, d3, d4, d5, Result.andThen]; try rfl) rfl ?_
 exact HS.out.moved (grown_put6 _ _ _ _ _ _ _ _ _ _ _ _)
set_option maxHeartbeats 1000000 in
theorem parse_sig (s : ByteArray) (hs : s.size ≤ 1000000) (w : World) (hk : Kw w) : Calls Tryz.prog 30 #[.string s] w fun e w' => Said3 s w (partS .sig) e w' := by
 have HW := Lib.hid (whole_sig s hs (w.alloc boxZ) (hk.alloc _))
 have HB := Lib.hid (heap_alloc_new w boxZ)
 clear hk
 go_enter Tryz.func30, Tryz.ntmps30
 go_wp2_with fail
 refine HW.out.mono ?_
 intro e w2 hsd
 obtain ⟨k, m, f, t, np, nn, nc, kp, kn, kc, a, c, rfl⟩ := hsd.form
 have HX := Lib.hid ((hsd.1.block w.heap.size (by simp)).trans HB.out)
 have HS := Lib.hid hsd
 clear hsd HW HB
 have hcb := Lib.cell_of_heap HX.out
 have c0 := hcb 0
 have c1 := hcb 1
 have c2 := hcb 2
 have c3 := hcb 3
 have c4 := hcb 4
 have c5 := hcb 5
 simp only [List.getElem?_toArray, List.getElem?_cons_zero, List.getElem?_cons_succ] at c0 c1 c2 c3 c4 c5
 have f0 := cells_frozen HX.out 0
 have f1 := cells_frozen HX.out 1
 have f2 := cells_frozen HX.out 2
 have f3 := cells_frozen HX.out 3
 have f4 := cells_frozen HX.out 4
 have f5 := cells_frozen HX.out 5
 clear hcb
 go_wp2_with fail
 have HP := (six_set HX.out (.int .i64 k) (.int .i64 m) (.int .i64 f) (.int .i64 t) (.slice np nn nc) (.slice kp kn kc)).1
 have hcb := Lib.cell_of_heap HP
 have d0 := hcb 0
 have d1 := hcb 1
 have d2 := hcb 2
 have d3 := hcb 3
 have d4 := hcb 4
 have d5 := hcb 5
 simp only [List.getElem?_toArray, List.getElem?_cons_zero, List.getElem?_cons_succ] at d0 d1 d2 d3 d4 d5
 clear hcb
 refine bodyPost_ret (by simp [results, Tryz.results30, go_sem, d0, d1, d2, d3, d4, d5, Result.andThen]; try rfl) rfl ?_
 exact HS.out.moved (grown_put6 _ _ _ _ _ _ _ _ _ _ _ _)
set_option maxHeartbeats 1000000 in
theorem read_exp (s : ByteArray) (hs : s.size ≤ 1000000) (w : World) (hk : Kw w) : Calls Tryz.prog 17 #[.string s, .int .i64 1] w fun e w' => Said3 s w (partS .exp) e w' := by
 have HW := Lib.hid (parse_exp s hs (w.alloc boxZ) (hk.alloc _))
 have HB := Lib.hid (heap_alloc_new w boxZ)
 clear hk
 go_enter Tryz.func17, Tryz.ntmps17
 go_wp2_with fail
 refine HW.out.mono ?_
 intro e w2 hsd
 obtain ⟨k, m, f, t, np, nn, nc, kp, kn, kc, a, c, rfl⟩ := hsd.form
 have HX := Lib.hid ((hsd.1.block w.heap.size (by simp)).trans HB.out)
 have HS := Lib.hid hsd
 clear hsd HW HB
 have hcb := Lib.cell_of_heap HX.out
 have c0 := hcb 0
 have c1 := hcb 1
 have c2 := hcb 2
 have c3 := hcb 3
 have c4 := hcb 4
 have c5 := hcb 5
 simp only [List.getElem?_toArray, List.getElem?_cons_zero, List.getElem?_cons_succ] at c0 c1 c2 c3 c4 c5
 have f0 := cells_frozen HX.out 0
 have f1 := cells_frozen HX.out 1
 have f2 := cells_frozen HX.out 2
 have f3 := cells_frozen HX.out 3
 have f4 := cells_frozen HX.out 4
 have f5 := cells_frozen HX.out 5
 clear hcb
 go_wp2_with fail
 have HP := (six_set HX.out (.int .i64 k) (.int .i64 m) (.int .i64 f) (.int .i64 t) (.slice np nn nc) (.slice kp kn kc)).1
 have hcb := Lib.cell_of_heap HP
 have d0 := hcb 0
 have d1 := hcb 1
 have d2 := hcb 2
 have d3 := hcb 3
 have d4 := hcb 4
 have d5 := hcb 5
 simp only [List.getElem?_toArray, List.getElem?_cons_zero, List.getElem?_cons_succ] at d0 d1 d2 d3 d4 d5
 clear hcb
 refine bodyPost_ret (by simp [results, Tryz.results17, go_sem, d0, d1, d2, d3, d4, d5, Result.andThen]; try rfl) rfl ?_
 exact HS.out.moved (grown_put6 _ _ _ _ _ _ _ _ _ _ _ _)
set_option maxHeartbeats 1000000 in
theorem read_pat (s : ByteArray) (hs : s.size ≤ 1000000) (w : World) (hk : Kw w) : Calls Tryz.prog 17 #[.string s, .int .i64 2] w fun e w' => Said3 s w (partS .pat) e w' := by
 have HW := Lib.hid (parse_pat s hs (w.alloc boxZ) (hk.alloc _))
 have HB := Lib.hid (heap_alloc_new w boxZ)
 clear hk
 go_enter Tryz.func17, Tryz.ntmps17
 go_wp2_with fail
 refine HW.out.mono ?_
 intro e w2 hsd
 obtain ⟨k, m, f, t, np, nn, nc, kp, kn, kc, a, c, rfl⟩ := hsd.form
 have HX := Lib.hid ((hsd.1.block w.heap.size (by simp)).trans HB.out)
 have HS := Lib.hid hsd
 clear hsd HW HB
 have hcb := Lib.cell_of_heap HX.out
 have c0 := hcb 0
 have c1 := hcb 1
 have c2 := hcb 2
 have c3 := hcb 3
 have c4 := hcb 4
 have c5 := hcb 5
 simp only [List.getElem?_toArray, List.getElem?_cons_zero, List.getElem?_cons_succ] at c0 c1 c2 c3 c4 c5
 have f0 := cells_frozen HX.out 0
 have f1 := cells_frozen HX.out 1
 have f2 := cells_frozen HX.out 2
 have f3 := cells_frozen HX.out 3
 have f4 := cells_frozen HX.out 4
 have f5 := cells_frozen HX.out 5
 clear hcb
 go_wp2_with fail
 have HP := (six_set HX.out (.int .i64 k) (.int .i64 m) (.int .i64 f) (.int .i64 t) (.slice np nn nc) (.slice kp kn kc)).1
 have hcb := Lib.cell_of_heap HP
 have d0 := hcb 0
 have d1 := hcb 1
 have d2 := hcb 2
 have d3 := hcb 3
 have d4 := hcb 4
 have d5 := hcb 5
 simp only [List.getElem?_toArray, List.getElem?_cons_zero, List.getElem?_cons_succ] at d0 d1 d2 d3 d4 d5
 clear hcb
 refine bodyPost_ret (by simp [results, Tryz.results17, go_sem, d0, d1, d2, d3, d4, d5, Result.andThen]; try rfl) rfl ?_
 exact HS.out.moved (grown_put6 _ _ _ _ _ _ _ _ _ _ _ _)
set_option maxHeartbeats 1000000 in
theorem read_ty (s : ByteArray) (hs : s.size ≤ 1000000) (w : World) (hk : Kw w) : Calls Tryz.prog 17 #[.string s, .int .i64 3] w fun e w' => Said3 s w (partS .ty) e w' := by
 have HW := Lib.hid (parse_ty s hs (w.alloc boxZ) (hk.alloc _))
 have HB := Lib.hid (heap_alloc_new w boxZ)
 clear hk
 go_enter Tryz.func17, Tryz.ntmps17
 go_wp2_with fail
 refine HW.out.mono ?_
 intro e w2 hsd
 obtain ⟨k, m, f, t, np, nn, nc, kp, kn, kc, a, c, rfl⟩ := hsd.form
 have HX := Lib.hid ((hsd.1.block w.heap.size (by simp)).trans HB.out)
 have HS := Lib.hid hsd
 clear hsd HW HB
 have hcb := Lib.cell_of_heap HX.out
 have c0 := hcb 0
 have c1 := hcb 1
 have c2 := hcb 2
 have c3 := hcb 3
 have c4 := hcb 4
 have c5 := hcb 5
 simp only [List.getElem?_toArray, List.getElem?_cons_zero, List.getElem?_cons_succ] at c0 c1 c2 c3 c4 c5
 have f0 := cells_frozen HX.out 0
 have f1 := cells_frozen HX.out 1
 have f2 := cells_frozen HX.out 2
 have f3 := cells_frozen HX.out 3
 have f4 := cells_frozen HX.out 4
 have f5 := cells_frozen HX.out 5
 clear hcb
 go_wp2_with fail
 have HP := (six_set HX.out (.int .i64 k) (.int .i64 m) (.int .i64 f) (.int .i64 t) (.slice np nn nc) (.slice kp kn kc)).1
 have hcb := Lib.cell_of_heap HP
 have d0 := hcb 0
 have d1 := hcb 1
 have d2 := hcb 2
 have d3 := hcb 3
 have d4 := hcb 4
 have d5 := hcb 5
 simp only [List.getElem?_toArray, List.getElem?_cons_zero, List.getElem?_cons_succ] at d0 d1 d2 d3 d4 d5
 clear hcb
 refine bodyPost_ret (by simp [results, Tryz.results17, go_sem, d0, d1, d2, d3, d4, d5, Result.andThen]; try rfl) rfl ?_
 exact HS.out.moved (grown_put6 _ _ _ _ _ _ _ _ _ _ _ _)
end Go.Proofs.YtkjgkchdkeggoaaGreatDoor

namespace Go.Proofs.YtkjgkchdkeggoaaGreatDoor
open Go.RowKit
set_option maxRecDepth 20000
set_option linter.unusedVariables false
set_option linter.unusedSimpArgs false

theorem inB_dec (l : List ByteArray) (s : ByteArray) : inB l s = l.any fun t => t.data.toList == s.data.toList := by
 unfold inB; congr 1; funext t; rw [Lib.toList_data, Lib.toList_data]
theorem ex_sec (s : ByteArray) : secB s = match s.data.toList with | _ :: d :: _ => lowB d | _ => false := by
 unfold secB; rw [Lib.toList_data]; rfl
theorem plain_of {c : UInt8} {r : List UInt8} {q : Int} (hd : digB c = false) (hk : kindN (bsOf (c :: r)) = q) (hq : (q == 0) = false) : plainN (c :: r) = q := by
 unfold plainN
 simp only [hd, hk, hq, cond_false]
theorem k_105_110_116 : kindN (bsOf [105, 110, 116]) = 6 := by
 unfold kindN kwB mkB; rw [inB_dec, inB_dec, beg_eq _ (by decide)]; decide
theorem a1_0 : tokN [105, 110, 116, 32, 42, 32, 39, 97, 32, 108, 105, 115, 116, 32, 45, 62, 32, 77, 46, 116] = (6, 3) := (by kernel_rfl : tokN [105, 110, 116, 32, 42, 32, 39, 97, 32, 108, 105, 115, 116, 32, 45, 62, 32, 77, 46, 116] = (plainN [105, 110, 116], 3)).trans (by rw [plain_of (by decide) k_105_110_116 rfl])
theorem a1_1 : tokN [32, 42, 32, 39, 97, 32, 108, 105, 115, 116, 32, 45, 62, 32, 77, 46, 116] = (1, 1) := by kernel_rfl
theorem k_42 : kindN (bsOf [42]) = 9 := by
 unfold kindN kwB mkB; rw [inB_dec, inB_dec, beg_eq _ (by decide)]; decide
theorem a1_2 : tokN [42, 32, 39, 97, 32, 108, 105, 115, 116, 32, 45, 62, 32, 77, 46, 116] = (9, 1) := (by kernel_rfl : tokN [42, 32, 39, 97, 32, 108, 105, 115, 116, 32, 45, 62, 32, 77, 46, 116] = (plainN [42], 1)).trans (by rw [plain_of (by decide) k_42 rfl])
theorem a1_3 : tokN [32, 39, 97, 32, 108, 105, 115, 116, 32, 45, 62, 32, 77, 46, 116] = (1, 1) := by kernel_rfl
theorem k_39_97 : kindN (bsOf [39, 97]) = 8 := by
 unfold kindN kwB mkB; rw [inB_dec, inB_dec, beg_eq _ (by decide), ex_sec]; decide
theorem a1_4 : tokN [39, 97, 32, 108, 105, 115, 116, 32, 45, 62, 32, 77, 46, 116] = (8, 2) := (by kernel_rfl : tokN [39, 97, 32, 108, 105, 115, 116, 32, 45, 62, 32, 77, 46, 116] = (plainN [39, 97], 2)).trans (by rw [plain_of (by decide) k_39_97 rfl])
theorem a1_5 : tokN [32, 108, 105, 115, 116, 32, 45, 62, 32, 77, 46, 116] = (1, 1) := by kernel_rfl
theorem k_108_105_115_116 : kindN (bsOf [108, 105, 115, 116]) = 6 := by
 unfold kindN kwB mkB; rw [inB_dec, inB_dec, beg_eq _ (by decide)]; decide
theorem a1_6 : tokN [108, 105, 115, 116, 32, 45, 62, 32, 77, 46, 116] = (6, 4) := (by kernel_rfl : tokN [108, 105, 115, 116, 32, 45, 62, 32, 77, 46, 116] = (plainN [108, 105, 115, 116], 4)).trans (by rw [plain_of (by decide) k_108_105_115_116 rfl])
theorem a1_7 : tokN [32, 45, 62, 32, 77, 46, 116] = (1, 1) := by kernel_rfl
theorem k_45_62 : kindN (bsOf [45, 62]) = 11 := by
 unfold kindN kwB mkB; rw [inB_dec, inB_dec, beg_eq _ (by decide)]; decide
theorem a1_8 : tokN [45, 62, 32, 77, 46, 116] = (11, 2) := (by kernel_rfl : tokN [45, 62, 32, 77, 46, 116] = (plainN [45, 62], 2)).trans (by rw [plain_of (by decide) k_45_62 rfl])
theorem a1_9 : tokN [32, 77, 46, 116] = (1, 1) := by kernel_rfl
theorem k_77 : kindN (bsOf [77]) = 7 := by
 unfold kindN kwB mkB; rw [inB_dec, inB_dec, beg_eq _ (by decide)]; decide
theorem a1_10 : tokN [77, 46, 116] = (7, 1) := (by kernel_rfl : tokN [77, 46, 116] = (plainN [77], 1)).trans (by rw [plain_of (by decide) k_77 rfl])
theorem k_46 : kindN (bsOf [46]) = 11 := by
 unfold kindN kwB mkB; rw [inB_dec, inB_dec, beg_eq _ (by decide)]; decide
theorem a1_11 : tokN [46, 116] = (11, 1) := (by kernel_rfl : tokN [46, 116] = (plainN [46], 1)).trans (by rw [plain_of (by decide) k_46 rfl])
theorem k_116 : kindN (bsOf [116]) = 6 := by
 unfold kindN kwB mkB; rw [inB_dec, inB_dec, beg_eq _ (by decide)]; decide
theorem a1_12 : tokN [116] = (6, 1) := (by kernel_rfl : tokN [116] = (plainN [116], 1)).trans (by rw [plain_of (by decide) k_116 rfl])
theorem a1_scan : scanT ⟨#[105, 110, 116, 32, 42, 32, 39, 97, 32, 108, 105, 115, 116, 32, 45, 62, 32, 77, 46, 116]⟩ = [⟨6, 0, 3⟩, ⟨1, 3, 4⟩, ⟨9, 4, 5⟩, ⟨1, 5, 6⟩, ⟨8, 6, 8⟩, ⟨1, 8, 9⟩, ⟨6, 9, 13⟩, ⟨1, 13, 14⟩, ⟨11, 14, 16⟩, ⟨1, 16, 17⟩, ⟨7, 17, 18⟩, ⟨11, 18, 19⟩, ⟨6, 19, 20⟩, ⟨0, 20, 20⟩] := by
 show scanF 20 0 [105, 110, 116, 32, 42, 32, 39, 97, 32, 108, 105, 115, 116, 32, 45, 62, 32, 77, 46, 116] ++ [⟨0, 20, 20⟩] = _
 simp [scanF, a1_0, a1_1, a1_2, a1_3, a1_4, a1_5, a1_6, a1_7, a1_8, a1_9, a1_10, a1_11, a1_12]
theorem a1_words : wordsT ⟨#[105, 110, 116, 32, 42, 32, 39, 97, 32, 108, 105, 115, 116, 32, 45, 62, 32, 77, 46, 116]⟩ = [⟨6, 0, 3⟩, ⟨9, 4, 5⟩, ⟨8, 6, 8⟩, ⟨6, 9, 13⟩, ⟨11, 14, 16⟩, ⟨7, 17, 18⟩, ⟨11, 18, 19⟩, ⟨6, 19, 20⟩, ⟨0, 20, 20⟩] := by
 unfold wordsT; rw [a1_scan]; rfl
theorem a1_first : (firstN ⟨#[105, 110, 116, 32, 42, 32, 39, 97, 32, 108, 105, 115, 116, 32, 45, 62, 32, 77, 46, 116]⟩).2 = 0 := by
 unfold firstN; rw [a1_scan]; decide
theorem k_102 : kindN (bsOf [102]) = 6 := by
 unfold kindN kwB mkB; rw [inB_dec, inB_dec, beg_eq _ (by decide)]; decide
theorem a2_0 : tokN [102, 32, 40, 49, 44, 32, 120, 41, 32, 43, 32, 121] = (6, 1) := (by kernel_rfl : tokN [102, 32, 40, 49, 44, 32, 120, 41, 32, 43, 32, 121] = (plainN [102], 1)).trans (by rw [plain_of (by decide) k_102 rfl])
theorem a2_1 : tokN [32, 40, 49, 44, 32, 120, 41, 32, 43, 32, 121] = (1, 1) := by kernel_rfl
theorem k_40 : kindN (bsOf [40]) = 11 := by
 unfold kindN kwB mkB; rw [inB_dec, inB_dec, beg_eq _ (by decide)]; decide
theorem a2_2 : tokN [40, 49, 44, 32, 120, 41, 32, 43, 32, 121] = (11, 1) := (by kernel_rfl : tokN [40, 49, 44, 32, 120, 41, 32, 43, 32, 121] = (plainN [40], 1)).trans (by rw [plain_of (by decide) k_40 rfl])
theorem a2_3 : tokN [49, 44, 32, 120, 41, 32, 43, 32, 121] = (4, 1) := by kernel_rfl
theorem k_44 : kindN (bsOf [44]) = 11 := by
 unfold kindN kwB mkB; rw [inB_dec, inB_dec, beg_eq _ (by decide)]; decide
theorem a2_4 : tokN [44, 32, 120, 41, 32, 43, 32, 121] = (11, 1) := (by kernel_rfl : tokN [44, 32, 120, 41, 32, 43, 32, 121] = (plainN [44], 1)).trans (by rw [plain_of (by decide) k_44 rfl])
theorem a2_5 : tokN [32, 120, 41, 32, 43, 32, 121] = (1, 1) := by kernel_rfl
theorem k_120 : kindN (bsOf [120]) = 6 := by
 unfold kindN kwB mkB; rw [inB_dec, inB_dec, beg_eq _ (by decide)]; decide
theorem a2_6 : tokN [120, 41, 32, 43, 32, 121] = (6, 1) := (by kernel_rfl : tokN [120, 41, 32, 43, 32, 121] = (plainN [120], 1)).trans (by rw [plain_of (by decide) k_120 rfl])
theorem k_41 : kindN (bsOf [41]) = 11 := by
 unfold kindN kwB mkB; rw [inB_dec, inB_dec, beg_eq _ (by decide)]; decide
theorem a2_7 : tokN [41, 32, 43, 32, 121] = (11, 1) := (by kernel_rfl : tokN [41, 32, 43, 32, 121] = (plainN [41], 1)).trans (by rw [plain_of (by decide) k_41 rfl])
theorem a2_8 : tokN [32, 43, 32, 121] = (1, 1) := by kernel_rfl
theorem k_43 : kindN (bsOf [43]) = 9 := by
 unfold kindN kwB mkB; rw [inB_dec, inB_dec, beg_eq _ (by decide)]; decide
theorem a2_9 : tokN [43, 32, 121] = (9, 1) := (by kernel_rfl : tokN [43, 32, 121] = (plainN [43], 1)).trans (by rw [plain_of (by decide) k_43 rfl])
theorem a2_10 : tokN [32, 121] = (1, 1) := by kernel_rfl
theorem k_121 : kindN (bsOf [121]) = 6 := by
 unfold kindN kwB mkB; rw [inB_dec, inB_dec, beg_eq _ (by decide)]; decide
theorem a2_11 : tokN [121] = (6, 1) := (by kernel_rfl : tokN [121] = (plainN [121], 1)).trans (by rw [plain_of (by decide) k_121 rfl])
theorem a2_scan : scanT ⟨#[102, 32, 40, 49, 44, 32, 120, 41, 32, 43, 32, 121]⟩ = [⟨6, 0, 1⟩, ⟨1, 1, 2⟩, ⟨11, 2, 3⟩, ⟨4, 3, 4⟩, ⟨11, 4, 5⟩, ⟨1, 5, 6⟩, ⟨6, 6, 7⟩, ⟨11, 7, 8⟩, ⟨1, 8, 9⟩, ⟨9, 9, 10⟩, ⟨1, 10, 11⟩, ⟨6, 11, 12⟩, ⟨0, 12, 12⟩] := by
 show scanF 12 0 [102, 32, 40, 49, 44, 32, 120, 41, 32, 43, 32, 121] ++ [⟨0, 12, 12⟩] = _
 simp [scanF, a2_0, a2_1, a2_2, a2_3, a2_4, a2_5, a2_6, a2_7, a2_8, a2_9, a2_10, a2_11]
theorem a2_words : wordsT ⟨#[102, 32, 40, 49, 44, 32, 120, 41, 32, 43, 32, 121]⟩ = [⟨6, 0, 1⟩, ⟨11, 2, 3⟩, ⟨4, 3, 4⟩, ⟨11, 4, 5⟩, ⟨6, 6, 7⟩, ⟨11, 7, 8⟩, ⟨9, 9, 10⟩, ⟨6, 11, 12⟩, ⟨0, 12, 12⟩] := by
 unfold wordsT; rw [a2_scan]; rfl
theorem a2_first : (firstN ⟨#[102, 32, 40, 49, 44, 32, 120, 41, 32, 43, 32, 121]⟩).2 = 0 := by
 unfold firstN; rw [a2_scan]; decide
theorem k_118_97_108 : kindN (bsOf [118, 97, 108]) = 10 := by
 unfold kindN kwB mkB; rw [inB_dec, inB_dec, beg_eq _ (by decide)]; decide
theorem a3_0 : tokN [118, 97, 108, 32, 120, 32, 61] = (10, 3) := (by kernel_rfl : tokN [118, 97, 108, 32, 120, 32, 61] = (plainN [118, 97, 108], 3)).trans (by rw [plain_of (by decide) k_118_97_108 rfl])
theorem a3_1 : tokN [32, 120, 32, 61] = (1, 1) := by kernel_rfl
theorem a3_2 : tokN [120, 32, 61] = (6, 1) := (by kernel_rfl : tokN [120, 32, 61] = (plainN [120], 1)).trans (by rw [plain_of (by decide) k_120 rfl])
theorem a3_3 : tokN [32, 61] = (1, 1) := by kernel_rfl
theorem k_61 : kindN (bsOf [61]) = 11 := by
 unfold kindN kwB mkB; rw [inB_dec, inB_dec, beg_eq _ (by decide)]; decide
theorem a3_4 : tokN [61] = (11, 1) := (by kernel_rfl : tokN [61] = (plainN [61], 1)).trans (by rw [plain_of (by decide) k_61 rfl])
theorem a3_scan : scanT ⟨#[118, 97, 108, 32, 120, 32, 61]⟩ = [⟨10, 0, 3⟩, ⟨1, 3, 4⟩, ⟨6, 4, 5⟩, ⟨1, 5, 6⟩, ⟨11, 6, 7⟩, ⟨0, 7, 7⟩] := by
 show scanF 7 0 [118, 97, 108, 32, 120, 32, 61] ++ [⟨0, 7, 7⟩] = _
 simp [scanF, a3_0, a3_1, a3_2, a3_3, a3_4]
theorem a3_words : wordsT ⟨#[118, 97, 108, 32, 120, 32, 61]⟩ = [⟨10, 0, 3⟩, ⟨6, 4, 5⟩, ⟨11, 6, 7⟩, ⟨0, 7, 7⟩] := by
 unfold wordsT; rw [a3_scan]; rfl
theorem a3_first : (firstN ⟨#[118, 97, 108, 32, 120, 32, 61]⟩).2 = 0 := by
 unfold firstN; rw [a3_scan]; decide

theorem ok_of {s : ByteArray} {w w' : World} {o : Src → Out Pb} {e : Ending} {x : Pb} {n : Nat} (h : Said3 s w o e w') (h0 : (firstN s).2 = 0) (he : ∀ S : Src, S.s = s → S.ts = wordsT s → wholeO S (o S) = .ok x n) :
  Below w.heap.size w w' ∧ ∃ y : Br, e = .returned (.tuple #[y.h.val, .int .i64 0, .int .i64 0]) ∧ y.Lies w' ∧ (y.On fun q => w.heap.size ≤ q) ∧ y.pb = x := by
 obtain ⟨hb, ⟨h1, _⟩ | ⟨_, S, h1, h2, h3, ⟨x2, n2, v, h4, h5, y, h6, h7, h8, h9⟩ | ⟨n2, h4, _⟩ | ⟨n2, h4, _⟩⟩⟩ := h
 ·exact absurd h0 h1
 ·rw [he S h1 h2] at h4
  injection h4 with h4 _
  exact ⟨hb, y, by rw [h5, h6], h7, h8, by rw [h9, h4]⟩
 ·rw [he S h1 h2] at h4; cases h4
 ·rw [he S h1 h2] at h4; cases h4
theorem form_of {s : ByteArray} {w w' : World} {o : Src → Out Pb} {e : Ending} {n : Nat} {p : Int} (h : Said3 s w o e w') (h0 : (firstN s).2 = 0) (he : ∀ S : Src, S.s = s → S.ts = wordsT s → wholeO S (o S) = .form n ∧ S.pl n = p) :
  Below w.heap.size w w' ∧ e = .returned (.tuple #[zeroV, .int .i64 p, .int .i64 9]) := by
 obtain ⟨hb, ⟨h1, _⟩ | ⟨_, S, h1, h2, h3, ⟨x2, n2, v, h4, _⟩ | ⟨n2, h4, h5⟩ | ⟨n2, h4, _⟩⟩⟩ := h
 ·exact absurd h0 h1
 ·rw [(he S h1 h2).1] at h4; cases h4
 ·rw [(he S h1 h2).1] at h4
  injection h4 with h4
  subst h4
  exact ⟨hb, by rw [h5, (he S h1 h2).2]⟩
 ·rw [(he S h1 h2).1] at h4; cases h4
theorem deep_of {s : ByteArray} {w w' : World} {o : Src → Out Pb} {e : Ending} {n : Nat} {p : Int} (h : Said3 s w o e w') (h0 : (firstN s).2 = 0) (he : ∀ S : Src, S.s = s → S.ts = wordsT s → wholeO S (o S) = .deep n ∧ S.pl n = p) :
  Below w.heap.size w w' ∧ e = .returned (.tuple #[zeroV, .int .i64 p, .int .i64 6]) := by
 obtain ⟨hb, ⟨h1, _⟩ | ⟨_, S, h1, h2, h3, ⟨x2, n2, v, h4, _⟩ | ⟨n2, h4, _⟩ | ⟨n2, h4, h5⟩⟩⟩ := h
 ·exact absurd h0 h1
 ·rw [(he S h1 h2).1] at h4; cases h4
 ·rw [(he S h1 h2).1] at h4; cases h4
 ·rw [(he S h1 h2).1] at h4
  injection h4 with h4
  subst h4
  exact ⟨hb, by rw [h5, (he S h1 h2).2]⟩
theorem a3_out (S : Src) (h1 : S.s = ⟨#[118, 97, 108, 32, 120, 32, 61]⟩) (h2 : S.ts = wordsT ⟨#[118, 97, 108, 32, 120, 32, 61]⟩) : wholeO S (fileS S) = .form 3 ∧ S.pl 3 = 7 := by
 rw [a3_words] at h2
 obtain ⟨s, ts, g, gw, cw⟩ := S
 simp only at h1 h2
 subst h1 h2
 exact ⟨by kernel_rfl, rfl⟩
theorem a1_out (S : Src) (h1 : S.s = ⟨#[105, 110, 116, 32, 42, 32, 39, 97, 32, 108, 105, 115, 116, 32, 45, 62, 32, 77, 46, 116]⟩) (h2 : S.ts = wordsT ⟨#[105, 110, 116, 32, 42, 32, 39, 97, 32, 108, 105, 115, 116, 32, 45, 62, 32, 77, 46, 116]⟩) : wholeO S (partS .ty S) = .ok (.mk 43 0 0 8 [] [(.mk 44 0 0 4 [] [(.mk 42 0 0 1 [0] []), (.mk 42 0 2 4 [3] [(.mk 41 0 2 3 [] [])])]), (.mk 42 0 5 8 [5, 7] [])]) 8 := by
 rw [a1_words] at h2
 obtain ⟨s, ts, g, gw, cw⟩ := S
 simp only at h1 h2
 subst h1 h2
 kernel_rfl
theorem a2_out (S : Src) (h1 : S.s = ⟨#[102, 32, 40, 49, 44, 32, 120, 41, 32, 43, 32, 121]⟩) (h2 : S.ts = wordsT ⟨#[102, 32, 40, 49, 44, 32, 120, 41, 32, 43, 32, 121]⟩) : wholeO S (partS .exp S) = .ok (.mk 37 0 0 8 [6] [(.mk 36 0 0 6 [] [(.mk 28 0 0 1 [0] []), (.mk 30 0 1 6 [] [(.mk 26 0 2 3 [] []), (.mk 28 0 4 5 [4] [])])]), (.mk 28 0 7 8 [7] [])]) 8 := by
 rw [a2_words] at h2
 obtain ⟨s, ts, g, gw, cw⟩ := S
 simp only at h1 h2
 subst h1 h2
 kernel_rfl
end Go.Proofs.YtkjgkchdkeggoaaGreatDoor

namespace Go.Proofs.YtkjgkchdkeggoaaGreatDoor
open Go.RowKit
set_option maxRecDepth 20000
set_option linter.unusedVariables false
set_option linter.unusedSimpArgs false

def Pb.k : Pb → Int | .mk k _ _ _ _ _ => k
theorem pb_top {y : Br} {k m f t : Int} {ns : List Int} {p q : Pb} {w : World} (h : y.pb = .mk k m f t ns [p, q]) (hl : y.Lies w) :
  ∃ (m f t : Int) (np : Option Addr) (nn nc : Nat) (ns : List Int) (b off kc : Nat) (ks : List Br), y = .mk ⟨k, m, f, t, np, nn, nc, ns, some ⟨b, off, none⟩, 2, kc⟩ ks ∧ 2 ≤ kc ∧ b < w.heap.size ∧ w.cell? ⟨b, off, none⟩ = some (.int .i64 p.k) := by
 obtain ⟨⟨yk, ym, yf, yt, ynp, ynn, ync, yns, ykp, ykn, ykc⟩, ks⟩ := y
 simp only [Br.pb, Pb.mk.injEq] at h
 obtain ⟨rfl, rfl, rfl, rfl, rfl, hks⟩ := h
 rw [lies_iff] at hl
 obtain ⟨_, ⟨hn, hk⟩, _⟩ := hl
 simp only [Br.h, Br.ks] at hn hk
 match ks, hks with
 | [a, b], hks =>
  simp only [pbs, List.cons.injEq, and_true] at hks
  have hn2 : ykn = 2 := hn
  subst hn2
  rcases hk with h0 | ⟨bb, off, rfl, hc, hbl, hat⟩
  ·omega
  ·refine ⟨_, _, _, _, _, _, _, bb, off, _, _, rfl, hc, hbl, ?_⟩
   have := (hat 0 (by simp)).1
   obtain ⟨⟨ak, _, _, _, _, _, _, _, _, _, _⟩, _⟩ := a
   rw [← hks.1]
   simpa [Br.pb, Pb.k, Br.h] using this
set_option maxHeartbeats 1000000 in
theorem alive_any (w : World) (hk : Kw w) : Calls Tryz.prog 7 #[] w fun e w' => e = .returned (.bool true) ∧ Below w.heap.size w w' := by
 have H1 := Lib.hid (parse_ty ⟨#[105, 110, 116, 32, 42, 32, 39, 97, 32, 108, 105, 115, 116, 32, 45, 62, 32, 77, 46, 116]⟩ (by decide) w hk)
 have HK := Lib.hid hk
 clear hk
 go_enter Tryz.func7, Tryz.ntmps7
 go_wp2_with fail
 refine H1.out.mono ?_
 intro e w1 hsd
 obtain ⟨hb, y, rfl, hyl, _, hyp⟩ := ok_of hsd a1_first a1_out
 obtain ⟨m1, f1, t1, np1, nn1, nc1, ns1, b1, o1, kc1, ks1, rfl, hc1, hbl1, hcell1⟩ := pb_top hyp hyl
 simp only [Pb.k] at hcell1
 have HB1 := Lib.hid hb
 have HK1 := Lib.hid (HK.out.step hb)
 have HC1 := Lib.hid (And.intro hbl1 hcell1)
 clear hsd hb hyl hyp H1 HK hbl1 hcell1
 simp only [Hd.val, Br.h]
 have H2 := Lib.hid (parse_exp ⟨#[102, 32, 40, 49, 44, 32, 120, 41, 32, 43, 32, 121]⟩ (by decide) (w1.alloc (.cells #[.int .i64 43, .int .i64 m1, .int .i64 f1, .int .i64 t1, .slice np1 nn1 nc1, .slice (some ⟨b1, o1, none⟩) 2 kc1] 26)) (HK1.out.alloc _))
 go_wp2_with fail
 refine H2.out.mono ?_
 intro e w2 hsd
 obtain ⟨hb, y, rfl, hyl, _, hyp⟩ := ok_of hsd a2_first a2_out
 obtain ⟨m2, f2, t2, np2, nn2, nc2, ns2, b2, o2, kc2, ks2, rfl, hc2, hbl2, hcell2⟩ := pb_top hyp hyl
 simp only [Pb.k] at hcell2
 have hbA : Below w1.heap.size w1 (w1.alloc (.cells #[.int .i64 43, .int .i64 m1, .int .i64 f1, .int .i64 t1, .slice np1 nn1 nc1, .slice (some ⟨b1, o1, none⟩) 2 kc1] 26)) := (Below.refl _ _).alloc (Nat.le_refl _) _
 have HX1 := Lib.hid ((hb.block w1.heap.size (by simp)).trans (heap_alloc_new w1 (.cells #[.int .i64 43, .int .i64 m1, .int .i64 f1, .int .i64 t1, .slice np1 nn1 nc1, .slice (some ⟨b1, o1, none⟩) 2 kc1] 26)))
 have hb2 := hbA.trans (hb.mono hbA.size)
 have HB2 := Lib.hid (HB1.out.trans (hb2.mono HB1.out.size))
 have HK2 := Lib.hid (HK1.out.step hb2)
 have HC1b := Lib.hid (And.intro (Nat.lt_of_lt_of_le HC1.out.1 hb2.size) ((hb2.cell (p := ⟨b1, o1, none⟩) HC1.out.1).trans HC1.out.2))
 have HC2 := Lib.hid (And.intro hbl2 hcell2)
 have HZ1 : Hid (w1.heap.size < w2.heap.size) := Lib.hid (Array.getElem?_eq_some_iff.1 HX1.out).1
 clear hsd hb hb2 hbA hyl hyp H2 HK1 HB1 HC1 hbl2 hcell2
 simp only [Hd.val, Br.h]
 have H3 := Lib.hid (parse_file ⟨#[118, 97, 108, 32, 120, 32, 61]⟩ (by decide) (w2.alloc (.cells #[.int .i64 37, .int .i64 m2, .int .i64 f2, .int .i64 t2, .slice np2 nn2 nc2, .slice (some ⟨b2, o2, none⟩) 2 kc2] 26)) (HK2.out.alloc _))
 go_wp2_with fail
 refine H3.out.mono ?_
 intro e w3 hsd
 obtain ⟨hb, rfl⟩ := form_of hsd a3_first a3_out
 have hbA : Below w2.heap.size w2 (w2.alloc (.cells #[.int .i64 37, .int .i64 m2, .int .i64 f2, .int .i64 t2, .slice np2 nn2 nc2, .slice (some ⟨b2, o2, none⟩) 2 kc2] 26)) := (Below.refl _ _).alloc (Nat.le_refl _) _
 have hx2 := (hb.block w2.heap.size (by simp)).trans (heap_alloc_new w2 (.cells #[.int .i64 37, .int .i64 m2, .int .i64 f2, .int .i64 t2, .slice np2 nn2 nc2, .slice (some ⟨b2, o2, none⟩) 2 kc2] 26))
 have hb3 := hbA.trans (hb.mono hbA.size)
 have hx1 := (hb3.block w1.heap.size HZ1.out).trans HX1.out
 have HB3 := Lib.hid (HB2.out.trans (hb3.mono HB2.out.size))
 have k1 := (hb3.cell (p := ⟨b1, o1, none⟩) HC1b.out.1).trans HC1b.out.2
 have k2 := (hb3.cell (p := ⟨b2, o2, none⟩) HC2.out.1).trans HC2.out.2
 have l1 := Nat.lt_of_lt_of_le HC1b.out.1 hb3.size
 have l2 := Nat.lt_of_lt_of_le HC2.out.1 hb3.size
 have hbZ : Below w3.heap.size w3 (w3.alloc boxZ) := (Below.refl _ _).alloc (Nat.le_refl _) _
 have HB4 := Lib.hid (HB3.out.trans (hbZ.mono HB3.out.size))
 have q1 := Lib.cell_of_heap ((hbZ.block _ (Array.getElem?_eq_some_iff.1 hx1).1).trans hx1)
 have q2 := Lib.cell_of_heap ((hbZ.block _ (Array.getElem?_eq_some_iff.1 hx2).1).trans hx2)
 have q10 := q1 0
 have q15 := q1 5
 have q20 := q2 0
 have q25 := q2 5
 simp only [List.getElem?_toArray, List.getElem?_cons_zero, List.getElem?_cons_succ] at q10 q15 q20 q25
 have r1 := (hbZ.cell (p := ⟨b1, o1, none⟩) l1).trans k1
 have r2 := (hbZ.cell (p := ⟨b2, o2, none⟩) l2).trans k2
 clear hsd hb hbA hx1 hx2 hb3 HB3 HB2 k1 k2 l1 l2 hbZ q1 q2 H3 HK2 HC1b HC2 HX1 HZ1
 go_wp2_with (go_at_call 9; refine (no_any _ _).mono ?_; rintro e w' ⟨rfl, rfl⟩)
 go_ret
 exact ⟨rfl, HB4.out⟩
end Go.Proofs.YtkjgkchdkeggoaaGreatDoor
