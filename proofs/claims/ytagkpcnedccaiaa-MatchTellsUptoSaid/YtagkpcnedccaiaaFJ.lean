/-
  What a key is bound to (Find), the youngest link, and With.; Find, whole.; Rows of bindings that a call has made, and slices.Reverse.; slices.Reverse at bindings.
-/
import Derived.Test.YtagkpcnedccaiaaFI
import Derived.Deep.LoopGhost
import Derived.Laws.OwnMore
namespace Go.Proofs.Ytagkpcnedccaiaa
open Go.RowKit
set_option maxRecDepth 20000
set_option linter.unusedVariables false
set_option linter.unusedSimpArgs false

theorem cf_enter {f : FuncId} {fn : Func} (hf : Try.prog.funcs[f]? = some fn) (hname : (fn.name == "runtime.NumGoroutine") = false) (hb : fn.body.isNone = false) (args : Array Value) (w : World) :
  Sem.run Try.prog (callFunc f args) w = .ok (.enter f args) w := by
 have h1 : fn.name ≠ "runtime.NumGoroutine" := by simpa using hname
 show (callFunc f args).run Try.prog w = .ok (.enter f args) w
 obtain ⟨c, hc⟩ : ∃ c, fn.body = some c := by cases e : fn.body <;> simp_all
 simp [callFunc, hf, h1, hc]
theorem youngest_any (w : World) (p : Option Addr) (l : List Bd) (h : EnvAt w p l) : Calls Try.prog 74 #[.pointer p] w fun e w' => e = .returned (.pointer (top l)) ∧ w = w' := by
 rcases h with ⟨rfl, rfl⟩ | ⟨g, t, rfl, hl, hr⟩
 ·go_enter Try.func74, Try.ntmps74
  go_wp2
  go_ret
  exact ⟨rfl, rfl⟩
 ·have c0 := hr.c0
  simp only [at0]
  generalize top l = T at *
  clear hr hl
  go_enter Try.func74, Try.ntmps74
  go_wp2
  go_ret
  exact ⟨rfl, rfl⟩

set_option maxHeartbeats 4000000 in
theorem with19_any (w : World) (p : Option Addr) (l : List Bd) (b : Bi) (h : EnvAt w p l) (hn : l.length + 1 ≤ 900000) :
  Calls Try.prog 25 #[.pointer p, keyV b.k, itemV b] w (AndPost w l [b]) := by
 have HA : Hid (∀ (W : World) (g c : Nat), Below w.heap.size w W → W.heap[g]? = some (.cells #[.int .i64 b.k.1, .string b.k.2, .int .i64 b.dc, .int .i64 b.via, .pointer b.pa, .pointer b.pm] 85 (0, 0)) → 1 ≤ c → Calls Try.prog 39 #[.pointer p, .slice (some ⟨g, 0, none⟩) 1 c] W (AndPost w l [b])) := Lib.hid fun W g c hW hg hc => by
  refine (and_any W p l (at0 g) 1 c [b] (h.step hW) ⟨rfl, .inr ⟨g, rfl, hc, heap_lt hg, fun i x hx => ?_⟩⟩ hn).mono ?_
  ·cases i with
   | zero =>
    have hx2 : b = x := by simpa using hx
    subst hx2
    exact ⟨(cellH hg 0).trans rfl, (cellH hg 1).trans rfl, (cellH hg 2).trans rfl, (cellH hg 3).trans rfl, (cellH hg 4).trans rfl, (cellH hg 5).trans rfl⟩
   | succ i => simp at hx
  ·rintro e w' ⟨p', new, h1, h2, h3, h4, h5⟩
   exact ⟨p', new, h1, h2, h3, fun a ha => Nat.le_trans hW.size (h4 a ha), hW.trans (h5.mono hW.size)⟩
 clear h hn
 simp only [keyV, itemV]
 go_enter Try.func25, Try.ntmps25
 go_wp2_with fail
 refine (HA.out _ (w.heap.size + 1 + 1) 1 ?_ ?_ (by omega)).mono ?_
 ·exact (((Below.refl _ _).alloc (Nat.le_refl _) _).alloc (by simp) _).alloc (by simp; omega) _
 ·rw [show w.heap.size + 1 + 1 = (World.alloc (World.alloc w (.cells #[.int .i64 b.k.1, .string b.k.2] 27)) (.cells #[.int .i64 b.dc, .int .i64 b.via, .pointer b.pa, .pointer b.pm] 58)).heap.size by simp]
  exact heap_new _ _
 ·rintro e w1 ⟨p', new, rfl, h2, h3, h4, h5⟩
  have HP : Hid (AndPost w l [b] (.returned (.pointer p')) w1) := Lib.hid ⟨p', new, rfl, h2, h3, h4, h5⟩
  clear h2 h3 h4 h5
  go_wp2_with fail
  go_ret
  exact HP.out

/-- The pointer to a link, if there is one. -/
def lkp : Option Bd → Option Addr
 | none => none
 | some b => at0 b.lk
theorem look_node (l r : List Bd) (x : Bd) (k : Ky) (h : Srt (l ++ x :: r)) : look (l ++ x :: r) k = if ordK k x.k < 0 then look l k else if 0 < ordK k x.k then look r k else some x := by
 obtain ⟨h1, h2, h3⟩ := List.pairwise_append.1 h
 obtain ⟨h4, h5⟩ := List.pairwise_cons.1 h2
 have e1 : look (l ++ x :: r) k = (look l k).or (if x.k = k then some x else look r k) := by
  unfold look
  rw [List.find?_append, List.find?_cons]
  congr 1
  by_cases hx : x.k = k <;> simp [hx]
 rw [e1]
 have n2 : ¬ ordK k x.k < 0 → look l k = none := fun hc => by
  refine List.find?_eq_none.2 fun z hz => ?_
  simp only [decide_eq_true_eq]
  intro e
  have := (ordK_lt z.k x.k).2 (h3 z hz x (by simp))
  rw [e] at this
  omega
 rcases Int.lt_trichotomy (ordK k x.k) 0 with hc | hc | hc
 ·rw [if_pos hc]
  have hc := (ordK_lt _ _).1 hc
  have n1 : ¬ x.k = k := fun e => by rw [e] at hc; exact ltK_irr _ hc
  rw [if_neg n1, look_none (L := r) (fun z hz => ltK_trans hc (h4 z hz))]
  cases look l k <;> rfl
 ·have he : k = x.k := (ordK_eq _ _).1 hc
  rw [n2 (by omega), if_pos he.symm, if_neg (show ¬ ordK k x.k < 0 by omega), if_neg (show ¬ 0 < ordK k x.k by omega)]
  rfl
 ·rw [n2 (by omega), if_neg (show ¬ ordK k x.k < 0 by omega), if_pos hc]
  have hc := (ordK_gt _ _).1 hc
  have n1 : ¬ x.k = k := fun e => by rw [e] at hc; exact ltK_irr _ hc
  rw [if_neg n1]; rfl

set_option maxHeartbeats 4000000 in
theorem side23_any (k m : Ky) (kb : Nat) (w : World) (h0 : w.cell? ⟨kb, 0, none⟩ = some (.int .i64 k.1)) (h1 : w.cell? ⟨kb, 1, none⟩ = some (.string k.2)) (hkb : kb < w.heap.size) :
  Calls Try.prog 60 #[.agg #[.int .i64 m.1, .string m.2], .pointer (some ⟨kb, 0, none⟩)] w fun e w' => e = .returned (.int .i64 (ordK k m)) ∧ Below w.heap.size w w' := by
 have HO : Hid (∀ W, Below w.heap.size w W → Calls Try.prog 61 #[.agg #[.int .i64 k.1, .string k.2], .agg #[.int .i64 m.1, .string m.2]] W fun e w' => e = .returned (.int .i64 (ordK k m)) ∧ Below w.heap.size w w') := Lib.hid fun W hW => by
  refine (order_any k m W).mono ?_
  rintro e w' ⟨h1, h2⟩
  exact ⟨h1, hW.trans (h2.mono hW.size)⟩
 generalize ordK k m = O at *
 go_enter Try.func60, Try.ntmps60
 go_wp2_with (go_at_call 61; refine (HO.out _ ((Below.refl _ _).alloc (Nat.le_refl _) _)).mono ?_; rintro e w1 ⟨rfl, hb1⟩; have HB1 := Lib.hid hb1; clear hb1)
 go_ret
 exact ⟨rfl, HB1.out⟩

set_option maxHeartbeats 4000000 in
theorem find22_any (t : Tr) (k : Ky) (kb : Nat) (w : World) (ht : TrAt w t) (hs : Srt t.toL) (h0 : w.cell? ⟨kb, 0, none⟩ = some (.int .i64 k.1)) (h1 : w.cell? ⟨kb, 1, none⟩ = some (.string k.2)) (hkb : kb < w.heap.size) :
  Calls Try.prog 59 #[.pointer t.ptr, .func (.func 60) #[] #[.pointer (some ⟨kb, 0, none⟩)]] w fun e w' => e = .returned (.pointer (lkp (look t.toL k))) ∧ Below w.heap.size w w' := by
 have hcf : ∀ args W, Sem.run Try.prog (callFunc 60 args) W = .ok (.enter 60 args) W := fun args W => cf_enter Try.func60 (by kernel_rfl) (by kernel_rfl) args W
 have HS : Hid (∀ (m : Ky) W, Below w.heap.size w W → Calls Try.prog 60 #[.agg #[.int .i64 m.1, .string m.2], .pointer (some ⟨kb, 0, none⟩)] W fun e w' => e = .returned (.int .i64 (ordK k m)) ∧ Below w.heap.size w w') := Lib.hid fun m W hW => by
  refine (side23_any k m kb W ((hW.cell (p := ⟨kb, _, none⟩) hkb).trans h0) ((hW.cell (p := ⟨kb, _, none⟩) hkb).trans h1) (Nat.lt_of_lt_of_le hkb hW.size)).mono ?_
  rintro e w' ⟨h1, h2⟩
  exact ⟨h1, hW.trans (h2.mono hW.size)⟩
 have HT := Lib.hid ht
 have HSS := Lib.hid hs
 clear ht hs h0 h1 hkb
 go_enter Try.func59, Try.ntmps59
 go_wp2_with fail
 go_loopg [0] (t.toL.length) (fun gk v wr => ∃ t' : Tr, v = .pointer t'.ptr ∧ t'.toL.length ≤ gk ∧ Hid (TrAt w t') ∧ Hid (Srt t'.toL) ∧ Hid (look t.toL k = look t'.toL k) ∧ Hid (Below w.heap.size w wr))
 case atStart => exact ⟨t, rfl, Nat.le_refl _, HT, HSS, Lib.hid rfl, Lib.hid (Below.refl _ _)⟩
 case round =>
  obtain ⟨t', rfl, hg, ht', hs', hl', hb'⟩ := hrel
  cases t' with
  | nil =>
   simp only [Tr.ptr]
   have hE : Hid (look t.toL k = none) := Lib.hid (by rw [hl'.out]; rfl)
   go_wp2_with fail
   go_ret
   exact ⟨by rw [hE.out]; rfl, hb'.out⟩
  | node x l r g =>
   obtain ⟨px, hx⟩ := ht'.out.2.1
   have hL := Lib.hid (hl'.out.trans (look_node l.toL r.toL x k hs'.out))
   have hxs := (hx.step hb'.out).out
   have hns := (ht'.out.1.step hb'.out).out
   have x0 := hxs.c0
   have x1 := hxs.c1
   have n0 := hns.c0
   have n1 := hns.c1
   have n2 := hns.c2
   have HC := Lib.hid (HS.out x.k wr hb'.out)
   have hsp := List.pairwise_append.1 hs'.out
   have hlen : l.toL.length + 1 + r.toL.length ≤ gk := by simp only [Tr.toL, List.length_append, List.length_cons] at hg; omega
   have HN : Hid (∀ W, Below w.heap.size w W → W.cell? ⟨g, 0, none⟩ = some (.pointer (some ⟨x.lk, 0, none⟩)) ∧ W.cell? ⟨g, 1, none⟩ = some (.pointer l.ptr) ∧ W.cell? ⟨g, 2, none⟩ = some (.pointer r.ptr)) := Lib.hid fun W hW => by
    have := (ht'.out.1.step hW).out
    exact ⟨this.c0, this.c1, this.c2⟩
   have HTl := Lib.hid ht'.out.2.2.1
   have HTr := Lib.hid ht'.out.2.2.2
   have HSl : Hid (Srt l.toL) := Lib.hid hsp.1
   have HSr : Hid (Srt r.toL) := Lib.hid (List.pairwise_cons.1 hsp.2.1).2
   simp only [Tr.ptr, at0] at n0 ⊢
   clear hg hxs hns hx hsp ht' hs' hl'
   rcases Int.lt_trichotomy (ordK k x.k) 0 with ho | ho | ho
   ·have hE : Hid (look t.toL k = look l.toL k) := Lib.hid (by rw [hL.out, if_pos ho])
    generalize ordK k x.k = O at *
    go_wp2_with fail
    refine HC.out.mono ?_
    rintro e w1 ⟨rfl, hb1⟩
    have HB1 := Lib.hid hb1
    clear hb1 n0 n1 n2
    obtain ⟨n0, n1, n2⟩ := HN.out w1 HB1.out
    go_wp2_with fail
    go_roundg (gk - 1)
    case rel => exact ⟨l, rfl, by omega, HTl, HSl, hE, HB1⟩
    case measure => omega
   ·have hE : Hid (look t.toL k = some x) := Lib.hid (by rw [hL.out, if_neg (show ¬ ordK k x.k < 0 by omega), if_neg (show ¬ 0 < ordK k x.k by omega)])
    generalize ordK k x.k = O at *
    subst ho
    go_wp2_with fail
    refine HC.out.mono ?_
    rintro e w1 ⟨rfl, hb1⟩
    have HB1 := Lib.hid hb1
    clear hb1 n0 n1 n2
    obtain ⟨n0, n1, n2⟩ := HN.out w1 HB1.out
    go_wp2_with fail
    go_ret
    exact ⟨by rw [hE.out]; rfl, HB1.out⟩
   ·have hE : Hid (look t.toL k = look r.toL k) := Lib.hid (by rw [hL.out, if_neg (show ¬ ordK k x.k < 0 by omega), if_pos ho])
    have hge : ¬ ordK k x.k < 0 := by omega
    generalize ordK k x.k = O at *
    go_wp2_with fail
    refine HC.out.mono ?_
    rintro e w1 ⟨rfl, hb1⟩
    have HB1 := Lib.hid hb1
    clear hb1 n0 n1 n2
    obtain ⟨n0, n1, n2⟩ := HN.out w1 HB1.out
    go_wp2_with fail
    go_roundg (gk - 1)
    case rel => exact ⟨r, rfl, by omega, HTr, HSr, hE, HB1⟩
    case measure => omega
end Go.Proofs.Ytagkpcnedccaiaa

namespace Go.Proofs.Ytagkpcnedccaiaa
open Go.RowKit
set_option maxRecDepth 20000
set_option linter.unusedVariables false
set_option linter.unusedSimpArgs false

theorem frozenH {w : World} {b : Nat} {cs : Array Value} {T : TypeId} (hb : w.heap[b]? = some (.cells cs T (0, 0))) (j : Nat) : w.frozen? ⟨b, j, none⟩ = false := by
 simp [World.frozen?, hb]
/-- An item as a value. -/
def itO : Option Bd → Value
 | none => .agg #[.int .i64 0, .int .i64 0, .pointer none, .pointer none]
 | some b => .agg #[.int .i64 b.bi.dc, .int .i64 b.bi.via, .pointer b.bi.pa, .pointer b.bi.pm]
def FindPost (w : World) (o : Option Bd) (e : Ending) (w' : World) : Prop := e = .returned (.tuple #[itO o, .bool o.isSome]) ∧ Below w.heap.size w w'
set_option maxHeartbeats 4000000 in
theorem find_any (w : World) (p : Option Addr) (l : List Bd) (k : Ky) (h : EnvAt w p l) :
  Calls Try.prog 45 #[.pointer p, .agg #[.int .i64 k.1, .string k.2]] w (FindPost w (look l k)) := by
 rcases h with ⟨rfl, rfl⟩ | ⟨g, t, rfl, hl, hr⟩
 ·have hE : Hid (look [] k = none) := Lib.hid rfl
  go_enter Try.func45, Try.ntmps45
  go_wp2_with fail
  try simp only [Exit.inBlock, Exit.then]
  refine bodyPost_ret (by simp [results, Try.results45, go_sem, Result.andThen]; try rfl) rfl ?_
  exact ⟨by rw [hE.out]; rfl, ((((Below.refl _ _).alloc (Nat.le_refl _) _).alloc (by simp) _))⟩
 ·obtain ⟨wa, hwa⟩ : ∃ wa, wa = (w.alloc (.cells #[.int .i64 k.1, .string k.2] 27)).alloc (.cells #[.int .i64 0, .int .i64 0, .pointer none, .pointer none] 58) := ⟨_, rfl⟩
  have hba : Below w.heap.size w wa := by rw [hwa]; exact ((Below.refl _ _).alloc (Nat.le_refl _) _).alloc (by simp) _
  have hka : wa.heap[w.heap.size]? = some (.cells #[.int .i64 k.1, .string k.2] 27 (0, 0)) := by
   rw [hwa]; exact heap_step (heap_new _ _) ((Below.refl _ _).alloc (Nat.le_refl _) _)
  have hra : wa.heap[w.heap.size + 1]? = some (.cells #[.int .i64 0, .int .i64 0, .pointer none, .pointer none] 58 (0, 0)) := by
   rw [hwa, show w.heap.size + 1 = (w.alloc (.cells #[.int .i64 k.1, .string k.2] 27)).heap.size by simp]; exact heap_new _ _
  have hra' := hr.step hba
  have c1 := hr.c1
  have HF := Lib.hid (find22_any t k w.heap.size wa hra'.tr hra'.srt ((cellH hka 0).trans rfl) ((cellH hka 1).trans rfl) (heap_lt hka))
  rw [hr.look k] at HF
  have HLK : Hid (∀ b, look l k = some b → ∃ q, LkC w b q) := Lib.hid fun b hb => hr.lk.mem b (look_some hb).1
  have hg : g < w.heap.size := hr.lt
  have hsz : wa.heap.size = w.heap.size + 2 := by rw [hwa]; simp
  simp only [at0]
  clear hr hra' hl hka
  have HWA := Lib.hid hwa
  have HBA := Lib.hid hba
  have HRA := Lib.hid hra
  have HSZ := Lib.hid hsz
  have HF2 : Hid (∀ W, W = wa → Calls Try.prog 59 #[.pointer t.ptr, .func (.func 60) #[] #[.pointer (some ⟨w.heap.size, 0, none⟩)]] W fun e w' => e = .returned (.pointer (lkp (look l k))) ∧ Below wa.heap.size wa w') := Lib.hid fun W hW => by rw [hW]; exact HF.out
  clear hwa hba hra hsz HF
  cases hlk : look l k with
  | none =>
   rw [hlk] at HF2
   simp only [lkp] at HF2
   go_enter Try.func45, Try.ntmps45
   go_wp2_with (go_at_call 59; refine (HF2.out _ HWA.out.symm).mono ?_; rintro e w1 ⟨rfl, hb1⟩; have HB1 := Lib.hid hb1; have hra1 := heap_step HRA.out hb1; have q0 := (cellH hra1 0).trans rfl; have q1 := (cellH hra1 1).trans rfl; have q2 := (cellH hra1 2).trans rfl; have q3 := (cellH hra1 3).trans rfl; have f0 := frozenH hra1 0; have f1 := frozenH hra1 1; have f2 := frozenH hra1 2; have f3 := frozenH hra1 3; clear hb1 hra1)
   try simp only [Exit.inBlock, Exit.then]
   refine bodyPost_ret (by simp [results, Try.results45, go_sem, q0, q1, q2, q3, Result.andThen]; try rfl) rfl ?_
   refine ⟨rfl, ?_⟩
   exact ((((HBA.out.trans (HB1.out.mono HBA.out.size)).setCell (p := ⟨w.heap.size + 1, 0, none⟩) (by simp) _).setCell (p := ⟨w.heap.size + 1, 1, none⟩) (by simp) _).setCell (p := ⟨w.heap.size + 1, 2, none⟩) (by simp) _).setCell (p := ⟨w.heap.size + 1, 3, none⟩) (by simp) _
  | some b =>
   obtain ⟨pb, hb⟩ := HLK.out b hlk
   rw [hlk] at HF2
   simp only [lkp, at0] at HF2
   have HLB : Hid (∀ W, Below wa.heap.size wa W → W.cell? ⟨b.lk, 2, none⟩ = some (.int .i64 b.bi.dc) ∧ W.cell? ⟨b.lk, 3, none⟩ = some (.int .i64 b.bi.via) ∧ W.cell? ⟨b.lk, 4, none⟩ = some (.pointer b.bi.pa) ∧ W.cell? ⟨b.lk, 5, none⟩ = some (.pointer b.bi.pm)) := Lib.hid fun W hW => by
    have := (hb.step (HBA.out.trans (hW.mono HBA.out.size))).out
    exact ⟨this.c2, this.c3, this.c4, this.c5⟩
   have hbl : b.lk < w.heap.size := heap_lt hb
   clear hb hlk
   go_enter Try.func45, Try.ntmps45
   go_wp2_with (go_at_call 59; refine (HF2.out _ HWA.out.symm).mono ?_; rintro e w1 ⟨rfl, hb1⟩; have HB1 := Lib.hid hb1; have hra1 := heap_step HRA.out hb1; have q0 := (cellH hra1 0).trans rfl; have q1 := (cellH hra1 1).trans rfl; have q2 := (cellH hra1 2).trans rfl; have q3 := (cellH hra1 3).trans rfl; have f0 := frozenH hra1 0; have f1 := frozenH hra1 1; have f2 := frozenH hra1 2; have f3 := frozenH hra1 3; obtain ⟨l2, l3, l4, l5⟩ := HLB.out w1 hb1; clear hb1 hra1)
   try simp only [Exit.inBlock, Exit.then]
   refine bodyPost_ret (by simp [results, Try.results45, go_sem, q0, q1, q2, q3, Result.andThen]; try rfl) rfl ?_
   refine ⟨rfl, ?_⟩
   exact ((((HBA.out.trans (HB1.out.mono HBA.out.size)).setCell (p := ⟨w.heap.size + 1, 0, none⟩) (by simp) _).setCell (p := ⟨w.heap.size + 1, 1, none⟩) (by simp) _).setCell (p := ⟨w.heap.size + 1, 2, none⟩) (by simp) _).setCell (p := ⟨w.heap.size + 1, 3, none⟩) (by simp) _
end Go.Proofs.Ytagkpcnedccaiaa

namespace Go.Proofs.Ytagkpcnedccaiaa
open Go.RowKit
set_option maxRecDepth 20000
set_option linter.unusedVariables false
set_option linter.unusedSimpArgs false

def Bi.cells (b : Bi) : List Value := [.int .i64 b.k.1, .string b.k.2, .int .i64 b.dc, .int .i64 b.via, .pointer b.pa, .pointer b.pm]
def bcells (l : List Bi) : List Value := l.flatMap Bi.cells
theorem bcells_append (a b : List Bi) : bcells (a ++ b) = bcells a ++ bcells b := by simp [bcells]
theorem bcells_length (l : List Bi) : (bcells l).length = l.length * 6 := by
 induction l with
 | nil => rfl
 | cons v r ih => simp only [bcells, List.flatMap_cons, List.length_append] at *; rw [ih]; simp [Bi.cells]; omega
theorem bcells_get (l : List Bi) (j : Nat) (v : Bi) (h : l[j]? = some v) (r : Nat) (hr : r < 6) : (bcells l)[j * 6 + r]? = v.cells[r]? := by
 induction l generalizing j with
 | nil => simp at h
 | cons x t ih =>
  have hx : x.cells.length = 6 := rfl
  simp only [bcells, List.flatMap_cons] at *
  cases j with
  | zero =>
   simp only [List.getElem?_cons_zero, Option.some.injEq] at h
   subst h
   rw [Nat.zero_mul, Nat.zero_add, List.getElem?_append_left (by omega)]
  | succ j =>
   simp only [List.getElem?_cons_succ] at h
   rw [List.getElem?_append_right (by omega), show (j + 1) * 6 + r - x.cells.length = j * 6 + r by omega]
   exact ih j h
/-- One binding put into a row's cells. -/
def put6 (xs : List Value) (i : Nat) (b : Bi) : List Value := (((((xs.set (i * 6) (.int .i64 b.k.1)).set (i * 6 + 1) (.string b.k.2)).set (i * 6 + 2) (.int .i64 b.dc)).set (i * 6 + 3) (.int .i64 b.via)).set (i * 6 + 4) (.pointer b.pa)).set (i * 6 + 5) (.pointer b.pm)
theorem put6_bcells (l : List Bi) (i : Nat) (b : Bi) (h : i < l.length) : put6 (bcells l) i b = bcells (l.set i b) := by
 induction l generalizing i with
 | nil => simp at h
 | cons x t ih =>
  cases i with
  | zero => simp [put6, bcells, Bi.cells]
  | succ i =>
   have e : ∀ (n : Nat) (v : Value) (ys : List Value), (x.cells ++ ys).set (n + 6) v = x.cells ++ ys.set n v := fun n v ys => by
    simp [Bi.cells]
   have := ih i (by simpa using h)
   simp only [put6, bcells, List.flatMap_cons, List.set_cons_succ] at *
   rw [show (i + 1) * 6 = i * 6 + 6 by omega, e, show i * 6 + 6 + 1 = i * 6 + 1 + 6 by omega, e, show i * 6 + 6 + 2 = i * 6 + 2 + 6 by omega, e, show i * 6 + 6 + 3 = i * 6 + 3 + 6 by omega, e, show i * 6 + 6 + 4 = i * 6 + 4 + 6 by omega, e, show i * 6 + 6 + 5 = i * 6 + 5 + 6 by omega, e, this]
def OwnB (w : World) (base : Nat) (v : Value) (l : List Bi) : Prop := w.ownsRow base 85 6 v l.length (bcells l)
theorem OwnB.at_ {w : World} {base g n c : Nat} {l : List Bi} (h : OwnB w base (.slice (some ⟨g, 0, none⟩) n c) l) (i : Nat) (b : Bi) (hi : l[i]? = some b) : BiAt w g i b := by
 have hl : i < l.length := (List.getElem?_eq_some_iff.1 hi).1
 have hn : n = l.length := by
  obtain ⟨_, ⟨h0, _⟩ | ⟨g', c', cur, hv, _⟩⟩ := h
  ·cases h0
  ·simp only [Value.slice.injEq] at hv; exact hv.2.1
 subst hn
 have h' : w.ownsRow base 85 6 (.slice (some ⟨g, 0, none⟩) l.length c) l.length (bcells l) := h
 have key : ∀ r v, r < 6 → b.cells[r]? = some v → w.cell? ⟨g, i * 6 + r, none⟩ = some v := fun r v hr hv => by
  rw [h'.cellAt (i * 6 + r) (by omega), bcells_get l i b hi r hr, hv]
 exact ⟨key 0 _ (by omega) rfl, key 1 _ (by omega) rfl, key 2 _ (by omega) rfl, key 3 _ (by omega) rfl, key 4 _ (by omega) rfl, key 5 _ (by omega) rfl⟩
theorem OwnB.slice {w : World} {base : Nat} {v : Value} {l : List Bi} (h : OwnB w base v l) : (v = .slice none 0 0 ∧ l = []) ∨ ∃ g c, v = .slice (some ⟨g, 0, none⟩) l.length c ∧ base ≤ g ∧ g < w.heap.size ∧ l.length ≤ c := by
 obtain ⟨hl, ⟨h0, h1⟩ | ⟨g, c, cur, hv, hb, hg, hc, _⟩⟩ := h
 ·exact .inl ⟨h0, List.eq_nil_of_length_eq_zero h1⟩
 ·exact .inr ⟨g, c, hv, hb, heap_lt hg, hc⟩
theorem OwnB.bs {w : World} {base : Nat} {v : Value} {l : List Bi} (h : OwnB w base v l) : ∃ q n c, v = .slice q n c ∧ BS w q n c l := by
 rcases h.slice with ⟨rfl, rfl⟩ | ⟨g, c, rfl, hb, hg, hc⟩
 ·exact ⟨none, 0, 0, rfl, rfl, .inl rfl⟩
 ·exact ⟨some ⟨g, 0, none⟩, _, c, rfl, rfl, .inr ⟨g, rfl, hc, hg, fun i b hi => h.at_ i b hi⟩⟩
theorem OwnB.step {w w' : World} {base : Nat} {v : Value} {l : List Bi} (h : OwnB w base v l) (hw : Below w.heap.size w w') : OwnB w' base v l := by
 obtain ⟨hl, h0 | ⟨g, c, cur, hv, hb, hg, hr⟩⟩ := h
 ·exact ⟨hl, .inl h0⟩
 ·exact ⟨hl, .inr ⟨g, c, cur, hv, hb, heap_step hg hw, hr⟩⟩
theorem OwnB.base {w : World} {b b' : Nat} {v : Value} {l : List Bi} (h : OwnB w b v l) (hb : b' ≤ b) : OwnB w b' v l := by
 obtain ⟨hl, h0 | ⟨g, c, cur, hv, hg0, hg, hr⟩⟩ := h
 ·exact ⟨hl, .inl h0⟩
 ·exact ⟨hl, .inr ⟨g, c, cur, hv, Nat.le_trans hb hg0, hg, hr⟩⟩
/-- One binding stored into a row. -/
def set6 (w : World) (g i : Nat) (b : Bi) : World := (((((w.setCell ⟨g, i * 6, none⟩ (.int .i64 b.k.1)).setCell ⟨g, i * 6 + 1, none⟩ (.string b.k.2)).setCell ⟨g, i * 6 + 2, none⟩ (.int .i64 b.dc)).setCell ⟨g, i * 6 + 3, none⟩ (.int .i64 b.via)).setCell ⟨g, i * 6 + 4, none⟩ (.pointer b.pa)).setCell ⟨g, i * 6 + 5, none⟩ (.pointer b.pm)
theorem OwnB.put {w : World} {base g c : Nat} {l : List Bi} (h : OwnB w base (.slice (some ⟨g, 0, none⟩) l.length c) l) (i : Nat) (b : Bi) (hi : i < l.length) : OwnB (set6 w g i b) base (.slice (some ⟨g, 0, none⟩) l.length c) (l.set i b) := by
 have h1 := (((((World.ownsRow.stored h (i * 6) (.int .i64 b.k.1)).1.stored (i * 6 + 1) (.string b.k.2)).1.stored (i * 6 + 2) (.int .i64 b.dc)).1.stored (i * 6 + 3) (.int .i64 b.via)).1.stored (i * 6 + 4) (.pointer b.pa)).1.stored (i * 6 + 5) (.pointer b.pm)
 have h2 := h1.1
 unfold OwnB
 rw [← put6_bcells l i b hi, List.length_set]
 exact h2
theorem kp_set6 (w : World) (g i : Nat) (b : Bi) : Kp g w (set6 w g i b) := by
 refine ⟨by simp [set6], fun k hk hne => ?_⟩
 unfold set6
 rw [Below.heap_setCell _ ⟨g, _, none⟩ _ k hne, Below.heap_setCell _ ⟨g, _, none⟩ _ k hne, Below.heap_setCell _ ⟨g, _, none⟩ _ k hne, Below.heap_setCell _ ⟨g, _, none⟩ _ k hne, Below.heap_setCell _ ⟨g, _, none⟩ _ k hne, Below.heap_setCell _ ⟨g, _, none⟩ _ k hne]
theorem OwnB.frozen {w : World} {base g c : Nat} {l : List Bi} (h : OwnB w base (.slice (some ⟨g, 0, none⟩) l.length c) l) (j : Nat) : w.frozen? ⟨g, j, none⟩ = false := World.ownsRow.frozenAt h j
end Go.Proofs.Ytagkpcnedccaiaa

namespace Go.Proofs.Ytagkpcnedccaiaa
open Go.RowKit
set_option maxRecDepth 20000
set_option linter.unusedVariables false
set_option linter.unusedSimpArgs false

theorem kp_trans {o : Nat} {a b c : World} (h : Kp o a b) (k : Kp o b c) : Kp o a c := ⟨Nat.le_trans h.size k.size, fun j hj hne => (k.blk j (Nat.lt_of_lt_of_le hj h.size) hne).trans (h.blk j hj hne)⟩
theorem kp_refl (o : Nat) (w : World) : Kp o w w := ⟨Nat.le_refl _, fun _ _ _ => rfl⟩
theorem kp_drew (o : Nat) (w : World) : Kp o w w.drew := ⟨Nat.le_refl _, fun _ _ _ => rfl⟩
/-- After k swaps. -/
structure RevK (l m : List Bi) (k : Nat) : Prop where
 len : m.length = l.length
 get : ∀ i, i < l.length → m[i]? = if i < k ∨ l.length - 1 - i < k then l.reverse[i]? else l[i]?
theorem rev_zero (l : List Bi) : RevK l l 0 := ⟨rfl, fun i _ => by simp⟩
theorem rev_end {l m : List Bi} {k : Nat} (h : RevK l m k) (hk : l.length ≤ 2 * k + 1) : m = l.reverse := by
 apply List.ext_getElem?
 intro i
 rcases Nat.lt_or_ge i l.length with hi | hi
 ·rw [h.get i hi]
  split
  ·rfl
  ·rename_i hc
   have : i = l.length - 1 - i := by omega
   rw [List.getElem?_reverse hi, ← this]
 ·rw [List.getElem?_eq_none (by rw [h.len]; exact hi), List.getElem?_eq_none (by simpa using hi)]
theorem rev_swap {l m : List Bi} {k q : Nat} (h : RevK l m k) (hq : q = l.length - 1 - k) (hlt : k < q) {x y : Bi} (hx : m[k]? = some x) (hy : m[q]? = some y) : RevK l ((m.set k y).set q x) (k + 1) := by
 have hl := h.len
 have e1 : l[k]? = some x := by rw [← hx, h.get k (by omega), if_neg (by omega)]
 have e2 : l[q]? = some y := by rw [← hy, h.get q (by omega), if_neg (by omega)]
 refine ⟨by simp [hl], fun i hi => ?_⟩
 by_cases h1 : i = q
 ·subst h1
  rw [List.getElem?_set_self (by simp; omega), if_pos (by omega), List.getElem?_reverse hi, show l.length - 1 - i = k by omega, e1]
 ·rw [List.getElem?_set_ne (fun e => h1 e.symm)]
  by_cases h2 : i = k
  ·subst h2
   rw [List.getElem?_set_self (by omega), if_pos (by omega), List.getElem?_reverse hi, show l.length - 1 - i = q by omega, e2]
  ·rw [List.getElem?_set_ne (fun e => h2 e.symm), h.get i hi]
   by_cases h3 : i < k ∨ l.length - 1 - i < k
   ·rw [if_pos h3, if_pos (by omega)]
   ·rw [if_neg h3, if_neg (by omega)]

set_option maxHeartbeats 8000000 in
theorem reverse_any (w : World) (base : Nat) (v : Value) (l : List Bi) (h : OwnB w base v l) (hn : l.length ≤ 900000) :
  Calls Try.prog 75 #[v] w fun e w' => e = .returned (.tuple #[]) ∧ OwnB w' base v l.reverse ∧ (∀ g, v.ownBlock = some g → Kp g w w') ∧ (v.ownBlock = none → Below w.heap.size w w') ∧ Below base w w' := by
 rcases h.slice with ⟨rfl, rfl⟩ | ⟨g, c, rfl, hb, hg, hc⟩
 ·have H := Lib.hid h
  clear h
  go_enter Try.func75, Try.ntmps75
  go_wp2_with fail
  refine wp_loop_rounds 1 ?_
  rw [rounds_succ]
  go_wp2_with fail
  go_end0
  exact ⟨rfl, H.out, fun g hg => by simp [Value.ownBlock] at hg, fun _ => Below.refl _ _, Below.refl _ _⟩
 ·have H := Lib.hid h
  obtain ⟨n, hnl⟩ : ∃ n, n = l.length := ⟨_, rfl⟩
  have HN := Lib.hid hnl
  rw [← hnl] at hc hn ⊢
  have hbw : Below base w w := Below.refl _ _
  clear h hnl
  go_enter Try.func75, Try.ntmps75
  go_wp2_with fail
  go_loopw [2, 3] (fun i j wr => ∃ (k : Nat) (jj : Int) (m : List Bi), i = .int .i64 k ∧ j = .int .i64 jj ∧ k ≤ n ∧ jj = (n : Int) - 1 - k ∧ Hid (RevK l m k) ∧ Hid (OwnB wr base (.slice (some ⟨g, 0, none⟩) n c) m) ∧ Hid (Kp g w wr) ∧ Hid (Below base w wr)) (fun i _ _ => n - (intOf i).toNat)
  case atStart => exact ⟨0, _, l, rfl, rfl, by omega, by omega, Lib.hid (rev_zero l), Lib.hid (by rw [HN.out]; exact H.out), Lib.hid (kp_refl _ _), Lib.hid (Below.refl _ _)⟩
  case round =>
   obtain ⟨k, jj, m, rfl, rfl, hk, hjj, HR, HO, HKP, HBW⟩ := hrel
   by_cases hlt : (k : Int) < jj
   ·obtain ⟨q, rfl⟩ : ∃ q : Nat, jj = q := ⟨jj.toNat, by omega⟩
    have hml : m.length = n := by rw [HR.out.len, HN.out]
    have HML := Lib.hid hml
    obtain ⟨x, hx⟩ : ∃ x, m[k]? = some x := ⟨_, List.getElem?_eq_getElem (by omega)⟩
    obtain ⟨y, hy⟩ : ∃ y, m[q]? = some y := ⟨_, List.getElem?_eq_getElem (by omega)⟩
    have HO1 : OwnB wr base (.slice (some ⟨g, 0, none⟩) m.length c) m := by rw [hml]; exact HO.out
    obtain ⟨x0, x1, x2, x3, x4, x5⟩ := HO1.at_ k x hx
    obtain ⟨y0, y1, y2, y3, y4, y5⟩ := HO1.at_ q y hy
    have fz : Hid (∀ j, wr.frozen? ⟨g, j, none⟩ = false) := Lib.hid fun j => HO1.frozen j
    have a0 := fz.out (k * 6)
    have a1 := fz.out (k * 6 + 1)
    have a2 := fz.out (k * 6 + 2)
    have a3 := fz.out (k * 6 + 3)
    have a4 := fz.out (k * 6 + 4)
    have a5 := fz.out (k * 6 + 5)
    have b0 := fz.out (q * 6)
    have b1 := fz.out (q * 6 + 1)
    have b2 := fz.out (q * 6 + 2)
    have b3 := fz.out (q * 6 + 3)
    have b4 := fz.out (q * 6 + 4)
    have b5 := fz.out (q * 6 + 5)
    have HP1 := HO1.put k y (by omega)
    rw [show m.length = (m.set k y).length by simp] at HP1
    have HP2 := HP1.put q x (by simp; omega)
    rw [List.length_set, hml] at HP2
    have HP := Lib.hid HP2
    have HRS := Lib.hid (rev_swap HR.out (by rw [HN.out] at hjj; omega) (by omega) hx hy)
    have HK2 := Lib.hid (kp_trans HKP.out (kp_trans (kp_set6 wr g k y) (kp_set6 _ g q x)))
    have r1 : (0 : Int) ≤ (k : Int) := by omega
    have r2 : (k : Int) < (n : Int) := by omega
    have r3 : (q : Int) < (n : Int) := by omega
    have la : k < n := by omega
    have lb : q < n := by omega
    have hne : ¬ k * 6 = q * 6 := by omega
    simp only [set6] at HP HK2
    have HJJ := Lib.hid hjj
    clear HP1 HP2 HO1 hx hy hml hjj
    go_wp2_with fail
    go_region
    go_wp2_with fail
    go_roundw
    case rel =>
     refine ⟨k + 1, (q : Int) - 1, _, by go_num, rfl, by omega, by have := HJJ.out; omega, HRS, Lib.hid (World.ownsRow.drew HP.out), Lib.hid (kp_trans HK2.out (kp_drew _ _)), Lib.hid ?_⟩
     have h0 : base ≤ (⟨g, 0, none⟩ : Addr).block := hb
     exact ((((((((((((HBW.out.setCell (p := ⟨g, _, none⟩) hb _).setCell (p := ⟨g, _, none⟩) hb _).setCell (p := ⟨g, _, none⟩) hb _).setCell (p := ⟨g, _, none⟩) hb _).setCell (p := ⟨g, _, none⟩) hb _).setCell (p := ⟨g, _, none⟩) hb _).setCell (p := ⟨g, _, none⟩) hb _).setCell (p := ⟨g, _, none⟩) hb _).setCell (p := ⟨g, _, none⟩) hb _).setCell (p := ⟨g, _, none⟩) hb _).setCell (p := ⟨g, _, none⟩) hb _).setCell (p := ⟨g, _, none⟩) hb _).drew
    case measure => simp [intOf]; omega
   ·have hm : m = l.reverse := rev_end HR.out (by have := HN.out; omega)
    subst hm
    have HJJ := Lib.hid hjj
    clear hjj
    go_wp2_with fail
    go_end0
    refine ⟨rfl, HO.out, fun g' hg' => ?_, fun hg' => by simp [Value.ownBlock] at hg', HBW.out⟩
    simp only [Value.ownBlock, Option.some.injEq] at hg'
    rw [← hg']; exact HKP.out
end Go.Proofs.Ytagkpcnedccaiaa
