/-
  What a key is bound to (Find), the youngest link, and With.
-/
import Derived.Test.YtpgmlagkpigdjaaAnd
import Derived.Deep.LoopGhost
namespace Go.Proofs.Ytpgmlagkpigdjaa
open Go.RowKit
set_option maxRecDepth 20000
set_option linter.unusedVariables false
set_option linter.unusedSimpArgs false

theorem cf_enter {f : FuncId} {fn : Func} (hf : Try.prog.funcs[f]? = some fn) (hname : (fn.name == "runtime.NumGoroutine") = false) (hb : fn.body.isNone = false) (args : Array Value) (w : World) :
    Sem.run Try.prog (callFunc f args) w = .ok (.enter f args) w := by
  have h1 : fn.name ≠ "runtime.NumGoroutine" := by simpa using hname
  show (callFunc f args).run Try.prog w = .ok (.enter f args) w
  obtain ⟨c, hc⟩ : ∃ c, fn.body = some c := by cases e : fn.body <;> simp_all
  simp [callFunc, hf, h1, hc]
theorem youngest_any (w : World) (p : Option Addr) (l : List Bd) (h : EnvAt w p l) : Calls Try.prog 27 #[.pointer p] w fun e w' => e = .returned (.pointer (top l)) ∧ w = w' := by
  rcases h with ⟨rfl, rfl⟩ | ⟨g, t, rfl, hl, hr⟩
  · go_enter Try.func27, Try.ntmps27
    go_wp2
    go_ret
    exact ⟨rfl, rfl⟩
  · have c0 := hr.c0
    simp only [at0]
    generalize top l = T at *
    clear hr hl
    go_enter Try.func27, Try.ntmps27
    go_wp2
    go_ret
    exact ⟨rfl, rfl⟩

set_option maxHeartbeats 4000000 in
theorem with19_any (w : World) (p : Option Addr) (l : List Bd) (b : Bi) (h : EnvAt w p l) (hn : l.length + 1 ≤ 900000) :
    Calls Try.prog 19 #[.pointer p, keyV b.k, itemV b] w (AndPost w l [b]) := by
  have HA : Hid (∀ (W : World) (g c : Nat), Below w.heap.size w W → W.heap[g]? = some (.cells #[.int .i64 b.k.1, .string b.k.2, .int .i64 b.dc, .int .i64 b.via, .pointer b.pa, .pointer b.pm] 52 (0, 0)) → 1 ≤ c → Calls Try.prog 21 #[.pointer p, .slice (some ⟨g, 0, none⟩) 1 c] W (AndPost w l [b])) := Lib.hid fun W g c hW hg hc => by
    refine (and_any W p l (at0 g) 1 c [b] (h.step hW) ⟨rfl, .inr ⟨g, rfl, hc, heap_lt hg, fun i x hx => ?_⟩⟩ hn).mono ?_
    · cases i with
      | zero =>
        have hx2 : b = x := by simpa using hx
        subst hx2
        exact ⟨(cellH hg 0).trans rfl, (cellH hg 1).trans rfl, (cellH hg 2).trans rfl, (cellH hg 3).trans rfl, (cellH hg 4).trans rfl, (cellH hg 5).trans rfl⟩
      | succ i => simp at hx
    · rintro e w' ⟨p', new, h1, h2, h3, h4, h5⟩
      exact ⟨p', new, h1, h2, h3, fun a ha => Nat.le_trans hW.size (h4 a ha), hW.trans (h5.mono hW.size)⟩
  clear h hn
  simp only [keyV, itemV]
  go_enter Try.func19, Try.ntmps19
  go_wp2_with fail
  refine (HA.out _ (w.heap.size + 1 + 1) 1 ?_ ?_ (by omega)).mono ?_
  · exact (((Below.refl _ _).alloc (Nat.le_refl _) _).alloc (by simp) _).alloc (by simp; omega) _
  · rw [show w.heap.size + 1 + 1 = (World.alloc (World.alloc w (.cells #[.int .i64 b.k.1, .string b.k.2] 31)) (.cells #[.int .i64 b.dc, .int .i64 b.via, .pointer b.pa, .pointer b.pm] 33)).heap.size by simp]
    exact heap_new _ _
  · rintro e w1 ⟨p', new, rfl, h2, h3, h4, h5⟩
    have HP : Hid (AndPost w l [b] (.returned (.pointer p')) w1) := Lib.hid ⟨p', new, rfl, h2, h3, h4, h5⟩
    clear h2 h3 h4 h5
    go_wp2_with fail
    go_ret
    exact HP.out

/-- The pointer to a link, if there is one. -/
def lkp : Option Bd → Option Addr
  | none => none
  | some b => at0 b.lk
theorem look_node (l r : List Bd) (x : Bd) (k : Ky) (h : Srt (l ++ x :: r)) : look (l ++ x :: r) k = if ordK k x.k < 0 then look l k else if 0 < ordK k x.k then look r k else some x := by
  obtain ⟨h1, h2, h3⟩ := List.pairwise_append.1 h
  obtain ⟨h4, h5⟩ := List.pairwise_cons.1 h2
  have e1 : look (l ++ x :: r) k = (look l k).or (if x.k = k then some x else look r k) := by
    unfold look
    rw [List.find?_append, List.find?_cons]
    congr 1
    by_cases hx : x.k = k <;> simp [hx]
  rw [e1]
  have n2 : ¬ ordK k x.k < 0 → look l k = none := fun hc => by
    refine List.find?_eq_none.2 fun z hz => ?_
    simp only [decide_eq_true_eq]
    intro e
    have := (ordK_lt z.k x.k).2 (h3 z hz x (by simp))
    rw [e] at this
    omega
  rcases Int.lt_trichotomy (ordK k x.k) 0 with hc | hc | hc
  · rw [if_pos hc]
    have hc := (ordK_lt _ _).1 hc
    have n1 : ¬ x.k = k := fun e => by rw [e] at hc; exact ltK_irr _ hc
    rw [if_neg n1, look_none (L := r) (fun z hz => ltK_trans hc (h4 z hz))]
    cases look l k <;> rfl
  · have he : k = x.k := (ordK_eq _ _).1 hc
    rw [n2 (by omega), if_pos he.symm, if_neg (show ¬ ordK k x.k < 0 by omega), if_neg (show ¬ 0 < ordK k x.k by omega)]
    rfl
  · rw [n2 (by omega), if_neg (show ¬ ordK k x.k < 0 by omega), if_pos hc]
    have hc := (ordK_gt _ _).1 hc
    have n1 : ¬ x.k = k := fun e => by rw [e] at hc; exact ltK_irr _ hc
    rw [if_neg n1]; rfl

set_option maxHeartbeats 4000000 in
theorem side23_any (k m : Ky) (kb : Nat) (w : World) (h0 : w.cell? ⟨kb, 0, none⟩ = some (.int .i64 k.1)) (h1 : w.cell? ⟨kb, 1, none⟩ = some (.string k.2)) (hkb : kb < w.heap.size) :
    Calls Try.prog 23 #[.agg #[.int .i64 m.1, .string m.2], .pointer (some ⟨kb, 0, none⟩)] w fun e w' => e = .returned (.int .i64 (ordK k m)) ∧ Below w.heap.size w w' := by
  have HO : Hid (∀ W, Below w.heap.size w W → Calls Try.prog 24 #[.agg #[.int .i64 k.1, .string k.2], .agg #[.int .i64 m.1, .string m.2]] W fun e w' => e = .returned (.int .i64 (ordK k m)) ∧ Below w.heap.size w w') := Lib.hid fun W hW => by
    refine (order_any k m W).mono ?_
    rintro e w' ⟨h1, h2⟩
    exact ⟨h1, hW.trans (h2.mono hW.size)⟩
  generalize ordK k m = O at *
  go_enter Try.func23, Try.ntmps23
  go_wp2_with (go_at_call 24; refine (HO.out _ ((Below.refl _ _).alloc (Nat.le_refl _) _)).mono ?_; rintro e w1 ⟨rfl, hb1⟩; have HB1 := Lib.hid hb1; clear hb1)
  go_ret
  exact ⟨rfl, HB1.out⟩

set_option maxHeartbeats 4000000 in
theorem find22_any (t : Tr) (k : Ky) (kb : Nat) (w : World) (ht : TrAt w t) (hs : Srt t.toL) (h0 : w.cell? ⟨kb, 0, none⟩ = some (.int .i64 k.1)) (h1 : w.cell? ⟨kb, 1, none⟩ = some (.string k.2)) (hkb : kb < w.heap.size) :
    Calls Try.prog 22 #[.pointer t.ptr, .func (.func 23) #[] #[.pointer (some ⟨kb, 0, none⟩)]] w fun e w' => e = .returned (.pointer (lkp (look t.toL k))) ∧ Below w.heap.size w w' := by
  have hcf : ∀ args W, Sem.run Try.prog (callFunc 23 args) W = .ok (.enter 23 args) W := fun args W => cf_enter Try.func23 (by kernel_rfl) (by kernel_rfl) args W
  have HS : Hid (∀ (m : Ky) W, Below w.heap.size w W → Calls Try.prog 23 #[.agg #[.int .i64 m.1, .string m.2], .pointer (some ⟨kb, 0, none⟩)] W fun e w' => e = .returned (.int .i64 (ordK k m)) ∧ Below w.heap.size w w') := Lib.hid fun m W hW => by
    refine (side23_any k m kb W ((hW.cell (p := ⟨kb, _, none⟩) hkb).trans h0) ((hW.cell (p := ⟨kb, _, none⟩) hkb).trans h1) (Nat.lt_of_lt_of_le hkb hW.size)).mono ?_
    rintro e w' ⟨h1, h2⟩
    exact ⟨h1, hW.trans (h2.mono hW.size)⟩
  have HT := Lib.hid ht
  have HSS := Lib.hid hs
  clear ht hs h0 h1 hkb
  go_enter Try.func22, Try.ntmps22
  go_wp2_with fail
  go_loopg [0] (t.toL.length) (fun gk v wr => ∃ t' : Tr, v = .pointer t'.ptr ∧ t'.toL.length ≤ gk ∧ Hid (TrAt w t') ∧ Hid (Srt t'.toL) ∧ Hid (look t.toL k = look t'.toL k) ∧ Hid (Below w.heap.size w wr))
  case atStart => exact ⟨t, rfl, Nat.le_refl _, HT, HSS, Lib.hid rfl, Lib.hid (Below.refl _ _)⟩
  case round =>
    obtain ⟨t', rfl, hg, ht', hs', hl', hb'⟩ := hrel
    cases t' with
    | nil =>
      simp only [Tr.ptr]
      have hE : Hid (look t.toL k = none) := Lib.hid (by rw [hl'.out]; rfl)
      go_wp2_with fail
      go_ret
      exact ⟨by rw [hE.out]; rfl, hb'.out⟩
    | node x l r g =>
      obtain ⟨px, hx⟩ := ht'.out.2.1
      have hL := Lib.hid (hl'.out.trans (look_node l.toL r.toL x k hs'.out))
      have hxs := (hx.step hb'.out).out
      have hns := (ht'.out.1.step hb'.out).out
      have x0 := hxs.c0
      have x1 := hxs.c1
      have n0 := hns.c0
      have n1 := hns.c1
      have n2 := hns.c2
      have HC := Lib.hid (HS.out x.k wr hb'.out)
      have hsp := List.pairwise_append.1 hs'.out
      have hlen : l.toL.length + 1 + r.toL.length ≤ gk := by simp only [Tr.toL, List.length_append, List.length_cons] at hg; omega
      have HN : Hid (∀ W, Below w.heap.size w W → W.cell? ⟨g, 0, none⟩ = some (.pointer (some ⟨x.lk, 0, none⟩)) ∧ W.cell? ⟨g, 1, none⟩ = some (.pointer l.ptr) ∧ W.cell? ⟨g, 2, none⟩ = some (.pointer r.ptr)) := Lib.hid fun W hW => by
        have := (ht'.out.1.step hW).out
        exact ⟨this.c0, this.c1, this.c2⟩
      have HTl := Lib.hid ht'.out.2.2.1
      have HTr := Lib.hid ht'.out.2.2.2
      have HSl : Hid (Srt l.toL) := Lib.hid hsp.1
      have HSr : Hid (Srt r.toL) := Lib.hid (List.pairwise_cons.1 hsp.2.1).2
      simp only [Tr.ptr, at0] at n0 ⊢
      clear hg hxs hns hx hsp ht' hs' hl'
      rcases Int.lt_trichotomy (ordK k x.k) 0 with ho | ho | ho
      · have hE : Hid (look t.toL k = look l.toL k) := Lib.hid (by rw [hL.out, if_pos ho])
        generalize ordK k x.k = O at *
        go_wp2_with fail
        refine HC.out.mono ?_
        rintro e w1 ⟨rfl, hb1⟩
        have HB1 := Lib.hid hb1
        clear hb1 n0 n1 n2
        obtain ⟨n0, n1, n2⟩ := HN.out w1 HB1.out
        go_wp2_with fail
        go_roundg (gk - 1)
        case rel => exact ⟨l, rfl, by omega, HTl, HSl, hE, HB1⟩
        case measure => omega
      · have hE : Hid (look t.toL k = some x) := Lib.hid (by rw [hL.out, if_neg (show ¬ ordK k x.k < 0 by omega), if_neg (show ¬ 0 < ordK k x.k by omega)])
        generalize ordK k x.k = O at *
        subst ho
        go_wp2_with fail
        refine HC.out.mono ?_
        rintro e w1 ⟨rfl, hb1⟩
        have HB1 := Lib.hid hb1
        clear hb1 n0 n1 n2
        obtain ⟨n0, n1, n2⟩ := HN.out w1 HB1.out
        go_wp2_with fail
        go_ret
        exact ⟨by rw [hE.out]; rfl, HB1.out⟩
      · have hE : Hid (look t.toL k = look r.toL k) := Lib.hid (by rw [hL.out, if_neg (show ¬ ordK k x.k < 0 by omega), if_pos ho])
        have hge : ¬ ordK k x.k < 0 := by omega
        generalize ordK k x.k = O at *
        go_wp2_with fail
        refine HC.out.mono ?_
        rintro e w1 ⟨rfl, hb1⟩
        have HB1 := Lib.hid hb1
        clear hb1 n0 n1 n2
        obtain ⟨n0, n1, n2⟩ := HN.out w1 HB1.out
        go_wp2_with fail
        go_roundg (gk - 1)
        case rel => exact ⟨r, rfl, by omega, HTr, HSr, hE, HB1⟩
        case measure => omega
end Go.Proofs.Ytpgmlagkpigdjaa
