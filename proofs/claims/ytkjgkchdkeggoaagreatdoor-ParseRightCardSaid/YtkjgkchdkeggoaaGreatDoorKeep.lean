/-
  What a walk of the reader keeps: where it stands, what has grown, boxes of branches, rows of names and of kids.; The reader's within and file, out of the contract of decs.; The reader's ty, whole.; The shells of pat, exp, sig and str: what part makes of the closure under it.; The shell of dec: two boxes.; Appends to rows of kids and of names, over what a walk keeps.; The plain parser never runs dry, and goes on.; begins with one text more; the reader moved on.; A box that is written over by a node of what it held; appends to rows of names.
-/
import Derived.Test.YtkjgkchdkeggoaaGreatDoorTyAll
import Derived.Test.YtkjgkchdkeggoaaGreatDoorProd
import Derived.Deep.AppendLies
import Derived.Test.YtkjgkchdkeggoaaGreatDoorMdl
import Derived.Test.YtkjgkchdkeggoaaGreatDoorVal
namespace Go.Proofs.YtkjgkchdkeggoaaGreatDoor
open Go.RowKit
set_option maxRecDepth 20000
set_option linter.unusedVariables false
set_option linter.unusedSimpArgs false

/-- A branch's box. -/
abbrev BC (h : Hd) : Obj := .cells #[.int .i64 h.k, .int .i64 h.m, .int .i64 h.f, .int .i64 h.t, .slice h.np h.nn h.nc, .slice h.kp h.kn h.kc] 26
abbrev sixC (W : World) (b : Nat) (h : Hd) : World := ((((((W.setCell ⟨b, 0, none⟩ (.int .i64 h.k)).setCell ⟨b, 1, none⟩ (.int .i64 h.m)).setCell ⟨b, 2, none⟩ (.int .i64 h.f)).setCell ⟨b, 3, none⟩ (.int .i64 h.t)).setCell ⟨b, 4, none⟩ (.slice h.np h.nn h.nc)).setCell ⟨b, 5, none⟩ (.slice h.kp h.kn h.kc))
structure Live where
  X : List (Nat × Obj)
  B : List (Nat × Br)
  N : List (Value × List Nat)
  K : List (Value × List Br)
structure St (S : Src) (w1 : World) (d : Nat) (L : Live) (W : World) (n : Nat) : Prop where
  rd : Rd W S n d
  gr : w1.grownBy W (some S.g)
  lt : S.g < w1.heap.size
  lw : S.gw < w1.heap.size
  x : ∀ p ∈ L.X, W.heap[p.1]? = some p.2 ∧ p.1 < w1.heap.size ∧ p.1 ≠ S.g
  b : ∀ p ∈ L.B, W.heap[p.1]? = some (BC p.2.h) ∧ w1.heap.size ≤ p.1 ∧ p.2.Lies W ∧ p.2.On (fun q => w1.heap.size ≤ q)
  ns : ∀ p ∈ L.N, W.ownsRow w1.heap.size 3 1 p.1 p.2.length (p.2.map mkN)
  ks : ∀ p ∈ L.K, W.ownsRow w1.heap.size 26 6 p.1 p.2.length (cellsK p.2) ∧ Kids w1.heap.size p.1 W p.2
section
variable {S : Src} {w w1 W W' : World} {d n n' : Nat} {L : Live}
theorem St.initN (h : Rd w S n d) (X : List (Nat × Obj)) (hX : ∀ p ∈ X, w.heap[p.1]? = some p.2 ∧ p.1 ≠ S.g) : St S w d ⟨X, [], [], []⟩ w n :=
  ⟨h, grown_same _ _, h.lt, h.row, fun p hp => ⟨(hX p hp).1, (Array.getElem?_eq_some_iff.1 (hX p hp).1).1, (hX p hp).2⟩, fun p hp => (nomatch hp), fun p hp => (nomatch hp), fun p hp => (nomatch hp)⟩
theorem St.below (h : St S w1 d L W n) (hb : Below W.heap.size W W') : St S w1 d L W' n where
  rd := h.rd.step hb
  gr := grown_trans h.gr (grown_below hb _)
  lt := h.lt
  lw := h.lw
  x := fun p hp => by
    obtain ⟨h1, h2, h3⟩ := h.x p hp
    exact ⟨(hb.block _ (Array.getElem?_eq_some_iff.1 h1).1).trans h1, h2, h3⟩
  b := fun p hp => by
    obtain ⟨h1, h2, h3, h4⟩ := h.b p hp
    exact ⟨(hb.block _ (Array.getElem?_eq_some_iff.1 h1).1).trans h1, h2, h3.step _ hb, h4⟩
  ns := fun p hp => ownsRow_below (h.ns p hp) hb
  ks := fun p hp => ⟨ownsRow_below (h.ks p hp).1 hb, (h.ks p hp).2.step hb⟩
theorem St.init (h : Rd w S n d) (X : List (Nat × Obj)) (hX : ∀ p ∈ X, w.heap[p.1]? = some p.2 ∧ p.1 ≠ S.g) : St S (w.alloc boxZ) d ⟨X, [], [], []⟩ (w.alloc boxZ) n := by
  have hb : Below w.heap.size w (w.alloc boxZ) := (Below.refl w.heap.size w).alloc (Nat.le_refl _) _
  refine St.initN (h.step hb) X fun p hp => ⟨(hb.block _ (Array.getElem?_eq_some_iff.1 (hX p hp).1).1).trans (hX p hp).1, (hX p hp).2⟩
theorem lies_grow {y : Br} {N g : Nat} (hg : W.grownBy W' (some g)) (hlt : g < N) (hyl : y.Lies W) (hyo : y.On (fun q => N ≤ q)) : y.Lies W' :=
  Br.Lies.kept (P := fun q => N ≤ q) _ hg.size (fun q hq hl => hg.block q hl (fun e => by have := Option.some.inj e; omega)) hyo hyl
theorem St.grow (h : St S w1 d L W n) (hr : Rd W' S n' d) (hg : W.grownBy W' (some S.g)) : St S w1 d L W' n' where
  rd := hr
  gr := grown_trans h.gr hg
  lt := h.lt
  lw := h.lw
  x := fun p hp => by
    obtain ⟨h1, h2, h3⟩ := h.x p hp
    exact ⟨(hg.block _ (Array.getElem?_eq_some_iff.1 h1).1 (fun e => h3 (Option.some.inj e))).trans h1, h2, h3⟩
  b := fun p hp => by
    obtain ⟨h1, h2, h3, h4⟩ := h.b p hp
    have := h.lt
    exact ⟨(hg.block _ (Array.getElem?_eq_some_iff.1 h1).1 (fun e => by have := Option.some.inj e; omega)).trans h1, h2, lies_grow hg h.lt h3 h4, h4⟩
  ns := fun p hp => (h.ns p hp).kept hg (Or.inr (fun e => by have := ((h.ns p hp).lt _ e).1; have := h.lt; omega))
  ks := fun p hp => ⟨(h.ks p hp).1.kept hg (Or.inr (fun e => by have := ((h.ks p hp).1.lt _ e).1; have := h.lt; omega)), (h.ks p hp).2.grow hg h.lt⟩
theorem St.pan (h : St S (w.alloc boxZ) d L W n) (hg : W.grownBy W' (some S.g)) : w.grownBy W' (some S.g) :=
  grown_trans (grown_below ((Below.refl _ _).alloc (Nat.le_refl _) _) _) (grown_trans h.gr hg)
theorem St.size (h : St S w1 d L W n) : w1.heap.size ≤ W.heap.size := h.gr.size
theorem St.xc (h : St S w1 d L W n) {b : Nat} {v : Value} {T : TypeId} (hx : (b, Obj.cells #[v] T (0, 0)) ∈ L.X) : W.cell? ⟨b, 0, none⟩ = some v := Lib.cell_of_heap (h.x _ hx).1 0
/-- A box more. -/
theorem St.box (h : St S w1 d L W n) {y : Br} (hyl : y.Lies W) (hyo : y.On (fun q => w1.heap.size ≤ q)) : St S w1 d ⟨L.X, (W.heap.size, y) :: L.B, L.N, L.K⟩ (sixC (W.alloc boxZ) W.heap.size y.h) n := by
  have hb : Below W.heap.size W (W.alloc boxZ) := (Below.refl _ _).alloc (Nat.le_refl _) _
  have hrb := heap_alloc_new W boxZ
  obtain ⟨hsix, hgs⟩ := six_set hrb (.int .i64 y.h.k) (.int .i64 y.h.m) (.int .i64 y.h.f) (.int .i64 y.h.t) (.slice y.h.np y.h.nn y.h.nc) (.slice y.h.kp y.h.kn y.h.kc)
  have hs := h.size
  have hlt := h.lt
  have hlw := h.lw
  have h2 := h.below hb
  have hbl : ∀ q, q < W.heap.size → (sixC (W.alloc boxZ) W.heap.size y.h).heap[q]? = (W.alloc boxZ).heap[q]? := fun q hq => hgs.block q (by simp; omega) (fun e => by have := Option.some.inj e; omega)
  have low : ∀ x : Br, x.Lies W → x.Lies (sixC (W.alloc boxZ) W.heap.size y.h) := fun x hx => by
    have hon : x.On (fun _ => True) := by
      clear hyl hyo
      induction x using Br.ind with
      | hP hd ks ih =>
        rw [on_iff]
        rw [lies_iff] at hx
        exact ⟨fun _ _ _ => trivial, fun _ _ _ => trivial, fun z hz => ih z hz (hx.2.2 z hz)⟩
    exact Br.Lies.kept (P := fun q => q < W.heap.size) _ (by simp) (fun q hq _ => hbl q hq) ((Br.On.low x hon hx).mono (fun q hq => hq.2) _) (hx.step _ hb)
  refine ⟨h2.rd.grow hgs (fun e => by have := Option.some.inj e; omega) (fun e => by have := Option.some.inj e; omega), grown_own h2.gr hgs (fun q hq => by have := Option.some.inj hq; omega), h.lt, h.lw, fun p hp => ?_, fun p hp => ?_, fun p hp => ?_, fun p hp => ?_⟩
  · obtain ⟨h3, h4, h5⟩ := h2.x p hp
    exact ⟨(hbl _ (by omega)).trans h3, h4, h5⟩
  · rcases List.mem_cons.1 hp with rfl | hp
    · exact ⟨hsix, hs, low y hyl, hyo⟩
    · obtain ⟨h3, h4, h5, h6⟩ := h2.b p hp
      exact ⟨(hbl _ (Array.getElem?_eq_some_iff.1 (h.b p hp).1).1).trans h3, h4, low _ (h.b p hp).2.2.1, h6⟩
  · exact (h2.ns p hp).kept hgs (Or.inr (fun e => by have := ((h.ns p hp).lt _ e).2; omega))
  · refine ⟨(h2.ks p hp).1.kept hgs (Or.inr (fun e => by have := ((h.ks p hp).1.lt _ e).2; omega)), fun y hy => ⟨low y ((h.ks p hp).2 y hy).1, ((h.ks p hp).2 y hy).2⟩⟩
/-- A row of names more. -/
theorem St.newN (h : St S w1 d L W n) (l : List Nat) (hl : l.length ≤ 1000) : St S w1 d ⟨L.X, L.B, (.slice (some ⟨W.heap.size, 0, none⟩) l.length l.length, l) :: L.N, L.K⟩ (W.alloc (.cells (l.map mkN).toArray 3)) n := by
  have h2 := h.below ((Below.refl W.heap.size W).alloc (Nat.le_refl _) (.cells (l.map mkN).toArray 3))
  refine ⟨h2.rd, h2.gr, h.lt, h.lw, h2.x, h2.b, fun p hp => ?_, h2.ks⟩
  rcases List.mem_cons.1 hp with rfl | hp
  · exact own_lit (heap_alloc_new W (.cells (l.map mkN).toArray 3)) h.size (by simp) (by unfold maxLen; omega)
  · exact h2.ns p hp
/-- A row of kids more. -/
theorem St.newK (h : St S w1 d L W n) (ys : List Br) (hl : ys.length ≤ 1000) (hy : ∀ y ∈ ys, y.Lies W ∧ y.On (fun q => w1.heap.size ≤ q)) : St S w1 d ⟨L.X, L.B, L.N, (.slice (some ⟨W.heap.size, 0, none⟩) ys.length ys.length, ys) :: L.K⟩ (W.alloc (.cells (cellsK ys).toArray 26)) n := by
  have hb : Below W.heap.size W (W.alloc (.cells (cellsK ys).toArray 26)) := (Below.refl W.heap.size W).alloc (Nat.le_refl _) _
  have h2 := h.below hb
  refine ⟨h2.rd, h2.gr, h.lt, h.lw, h2.x, h2.b, h2.ns, fun p hp => ?_⟩
  rcases List.mem_cons.1 hp with rfl | hp
  · refine ⟨own_lit (heap_alloc_new W (.cells (cellsK ys).toArray 26)) h.size (by simp [cellsK_length]) (by unfold maxLen; omega), fun y hm => ?_⟩
    obtain ⟨hl1, ho⟩ := hy y hm
    refine ⟨hl1.step _ hb, (Br.On.low y ho hl1).mono (fun q hq => ⟨hq.1, fun e => ?_⟩) _⟩
    have : q = W.heap.size := by simpa [Value.ownBlock] using e
    omega
  · exact h2.ks p hp
theorem St.addN (h : St S w1 d L W n) {v : Value} {l : List Nat} (hv : W.ownsRow w1.heap.size 3 1 v l.length (l.map mkN)) : St S w1 d ⟨L.X, L.B, (v, l) :: L.N, L.K⟩ W n :=
  ⟨h.rd, h.gr, h.lt, h.lw, h.x, h.b, fun p hp => (List.mem_cons.1 hp).elim (fun e => by subst e; exact hv) (h.ns p), h.ks⟩
theorem St.addK (h : St S w1 d L W n) {v : Value} {ys : List Br} (hv : W.ownsRow w1.heap.size 26 6 v ys.length (cellsK ys)) (hk : Kids w1.heap.size v W ys) : St S w1 d ⟨L.X, L.B, L.N, (v, ys) :: L.K⟩ W n :=
  ⟨h.rd, h.gr, h.lt, h.lw, h.x, h.b, h.ns, fun p hp => (List.mem_cons.1 hp).elim (fun e => by subst e; exact ⟨hv, hk⟩) (h.ks p)⟩
theorem Kids.base {N N' : Nat} {v : Value} {W : World} {ys : List Br} (h : Kids N v W ys) (hn : N' ≤ N) : Kids N' v W ys := fun y hy => ⟨(h y hy).1, (h y hy).2.mono (fun q hq => ⟨by omega, hq.2⟩) _⟩
/-- The end of a walk that hands back a node. -/
theorem St.fin {o : Out Pb} {k m : Int} {f : Nat} {np : Option Addr} {nn nc : Nat} {l : List Nat} {kp : Option Addr} {kn kc : Nat} {ys : List Br} (h : St S (w.alloc boxZ) d L W n) (hgl : S.g < w.heap.size) (hgw : S.gw < w.heap.size)
    (hN : W.ownsRow (w.alloc boxZ).heap.size 3 1 (.slice np nn nc) l.length (l.map mkN)) (hK : W.ownsRow (w.alloc boxZ).heap.size 26 6 (.slice kp kn kc) ys.length (cellsK ys) ∧ Kids (w.alloc boxZ).heap.size (.slice kp kn kc) W ys)
    (ho : o = .ok (marked m (node k f n l (ys.map Br.pb))) n) : FinB S d w W o k m f n np nn nc kp kn kc := by
  have hz : (w.alloc boxZ).heap.size = w.heap.size + 1 := by simp
  obtain ⟨p, c, hv⟩ := own_form hK.1
  injection hv with h1 h2 h3
  subst h1 h2 h3
  obtain ⟨p, c, hv⟩ := own_form hN
  injection hv with h1 h2 h3
  subst h1 h2 h3
  rw [hz] at hN hK
  have HL := node_lies (w0 := w) (w1 := w) k m f n hN hK.1 hK.2
  exact fin_box _ k m f n np _ nc _ kp _ kc ys h.rd h.gr hgl hgw ho HL.1 HL.2 (by simp [Br.pb, pbs_map, node, marked])
/-- The end of a walk that hands on a branch. -/
theorem St.finY {o : Out Pb} {y : Br} (h : St S (w.alloc boxZ) d L W n) (hgl : S.g < w.heap.size) (hgw : S.gw < w.heap.size) (hyl : y.Lies W) (hyo : y.On (fun q => (w.alloc boxZ).heap.size ≤ q)) (ho : o = .ok y.pb n) :
    FinB S d w W o y.h.k y.h.m y.h.f y.h.t y.h.np y.h.nn y.h.nc y.h.kp y.h.kn y.h.kc := by
  have hz : (w.alloc boxZ).heap.size = w.heap.size + 1 := by simp
  rw [hz] at hyo
  obtain ⟨⟨yk, ym, yf, yt, ynp, ynn, ync, yns, ykp, ykn, ykc⟩, yks⟩ := y
  exact fin_box _ yk ym yf yt ynp ynn ync yns ykp ykn ykc yks h.rd h.gr hgl hgw ho hyl hyo rfl
theorem St.noN : W.ownsRow w1.heap.size 3 1 (.slice none 0 0) ([] : List Nat).length (([] : List Nat).map mkN) := names_none
theorem St.noK : W.ownsRow w1.heap.size 26 6 (.slice none 0 0) ([] : List Br).length (cellsK []) ∧ Kids w1.heap.size (.slice none 0 0) W [] := kids_none
theorem marked_node (k : Int) (f t : Nat) (ns : List Nat) (ks : List Pb) : marked 0 (node k f t ns ks) = node k f t ns ks := rfl
end
end Go.Proofs.YtkjgkchdkeggoaaGreatDoor

namespace Go.Proofs.YtkjgkchdkeggoaaGreatDoor
open Go.RowKit
set_option maxRecDepth 20000
set_option linter.unusedVariables false
set_option linter.unusedSimpArgs false

set_option maxHeartbeats 2000000 in
theorem within_any (S : Src) (F : Nat) (rec : Nt → Nat → Nat → Out Pb) (d at_ : Nat) (n : Nat) (w : World) (h : Rd w S n d)
    (hD : ∀ w', Rd w' S n d → decsO S F rec d at_ n ≠ .dry → Calls Tryz.prog 39 #[.pointer (some ⟨S.g, 0, none⟩), .int .i64 (at_ : Int)] w' fun e w'' => Ends S d w' (decsO S F rec d at_ n) (RK w') e w'')
    (hdry : withinO S F rec d at_ n ≠ .dry) :
    Calls Tryz.prog 113 #[.pointer (some ⟨S.g, 0, none⟩), .int .i64 (at_ : Int)] w fun e w' => Ends S d w (withinO S F rec d at_ n) (RB w) e w' := by
  have hgl := h.lt
  have hgwl := h.row
  have hb1 : Below w.heap.size w (w.alloc boxZ) := (Below.refl w.heap.size w).alloc (Nat.le_refl _) _
  have hr1 := h.step hb1
  have q2 := hr1.c2
  unfold withinO at hdry ⊢
  have HW := Lib.hid (hD _ hr1 (bind_dry hdry))
  obtain ⟨tot, htot⟩ : ∃ tot, tot = ((decsO S F rec d at_ n).bind fun l n1 => Out.ok (node 2 n n1 [] l) n1) := ⟨_, rfl⟩
  rw [← htot]
  have HTOT := Lib.hid htot
  clear hr1 hb1 h hdry hD htot
  go_enter Tryz.func113, Tryz.ntmps113
  go_wp2_with fail
  refine HW.out.mono ?_
  rintro e w4 (⟨l, n4, v, hpo, rfl, ⟨ys, hown, hK, hmap⟩, hr4, hg4⟩ | ⟨ch, ho, rfl, hg4⟩)
  · obtain ⟨kp, kc, rfl⟩ := own_form hown
    have HG5 := Lib.hid hg4
    have HO5 := Lib.hid (own_base (base' := w.heap.size + 1) hown (by simp))
    have HK5 : Hid (Kids (w.heap.size + 1) (.slice kp ys.length kc) w4 ys) := Lib.hid (fun y hy => ⟨(hK y hy).1, (hK y hy).2.mono (fun q hq => ⟨by have := hq.1; simpa using this, hq.2⟩) _⟩)
    have HEQ : Hid (tot = .ok (node 2 n n4 [] l) n4) := Lib.hid (by rw [HTOT.out, hpo, bind_ok])
    have HMAP := Lib.hid hmap
    have HR5 := Lib.hid hr4
    have HB := Lib.hid (rbranch_any S n4 d 2 n none 0 0 kp ys.length kc w4 hr4)
    clear hpo hown hK hmap hr4 hg4
    obtain ⟨nl, hnl⟩ : ∃ nl, nl = ys.length := ⟨_, rfl⟩
    have HNL := Lib.hid hnl
    rw [← hnl] at HO5 HK5 HB ⊢
    clear hnl
    go_wp2_with fail
    refine HB.out.mono ?_
    rintro e w7 ⟨rfl, hb7⟩
    have HL := node_lies (w0 := w) (w1 := w) (N := w.heap.size + 1) 2 0 n n4 (names_none (w := w7)) (by rw [← HNL.out]; exact ownsRow_below HO5.out hb7) (HK5.out.step hb7)
    have FIN := Lib.hid (fin_box (o := tot) (node 2 n n4 [] l) 2 0 n n4 none 0 0 _ kp nl kc ys (HR5.out.step hb7) (grown_trans HG5.out (grown_below hb7 _)) hgl hgwl HEQ.out HL.1 HL.2 (by rw [← HMAP.out]; simp [Br.pb, pbs_map, node]))
    clear HL hb7
    have c0 := FIN.out.c0
    have c1 := FIN.out.c1
    have c2 := FIN.out.c2
    have c3 := FIN.out.c3
    have c4 := FIN.out.c4
    have c5 := FIN.out.c5
    have f0 := FIN.out.fz 0
    have f1 := FIN.out.fz 1
    have f2 := FIN.out.fz 2
    have f3 := FIN.out.fz 3
    have f4 := FIN.out.fz 4
    have f5 := FIN.out.fz 5
    go_wp2_with fail
    obtain ⟨_, _, _, _, _, _, _, d0, d1, d2, d3, d4, d5, hfin⟩ := FIN.out
    refine bodyPost_ret (by simp [results, Tryz.results113, go_sem, d0, d1, d2, d3, d4, d5, Result.andThen]; try rfl) rfl ?_
    exact hfin
  · exact ⟨rfl, Or.inr ⟨ch, by rw [HTOT.out]; exact pan_bind ho, rfl, grown_trans (grown_below ((Below.refl _ _).alloc (Nat.le_refl _) _) _) hg4⟩⟩
set_option maxHeartbeats 2000000 in
theorem file_any (S : Src) (F : Nat) (n : Nat) (w : World) (h : Rd w S n 0)
    (hD : ∀ w', Rd w' S n 0 → decsO S F (parts S F) 0 2 n ≠ .dry → Calls Tryz.prog 39 #[.pointer (some ⟨S.g, 0, none⟩), .int .i64 2] w' fun e w'' => Ends S 0 w' (decsO S F (parts S F) 0 2 n) (RK w') e w'')
    (hdry : fileO S F n ≠ .dry) :
    Calls Tryz.prog 23 #[.pointer (some ⟨S.g, 0, none⟩)] w fun e w' => Ends S 0 w (fileO S F n) (RB w) e w' := by
  have hgl := h.lt
  have hgwl := h.row
  have hb1 : Below w.heap.size w (w.alloc boxZ) := (Below.refl w.heap.size w).alloc (Nat.le_refl _) _
  have hr1 := h.step hb1
  have q2 := hr1.c2
  unfold fileO at hdry ⊢
  have HW := Lib.hid (hD _ hr1 (bind_dry hdry))
  obtain ⟨tot, htot⟩ : ∃ tot, tot = ((decsO S F (parts S F) 0 2 n).bind fun l n1 => Out.ok (node 1 0 n1 [] l) n1) := ⟨_, rfl⟩
  rw [← htot]
  have HTOT := Lib.hid htot
  clear hr1 hb1 h hdry hD htot
  go_enter Tryz.func23, Tryz.ntmps23
  go_wp2_with fail
  refine HW.out.mono ?_
  rintro e w4 (⟨l, n4, v, hpo, rfl, ⟨ys, hown, hK, hmap⟩, hr4, hg4⟩ | ⟨ch, ho, rfl, hg4⟩)
  · obtain ⟨kp, kc, rfl⟩ := own_form hown
    have HG5 := Lib.hid hg4
    have HO5 := Lib.hid (own_base (base' := w.heap.size + 1) hown (by simp))
    have HK5 : Hid (Kids (w.heap.size + 1) (.slice kp ys.length kc) w4 ys) := Lib.hid (fun y hy => ⟨(hK y hy).1, (hK y hy).2.mono (fun q hq => ⟨by have := hq.1; simpa using this, hq.2⟩) _⟩)
    have HEQ : Hid (tot = .ok (node 1 0 n4 [] l) n4) := Lib.hid (by rw [HTOT.out, hpo, bind_ok])
    have HMAP := Lib.hid hmap
    have HR5 := Lib.hid hr4
    have HB := Lib.hid (rbranch_any S n4 0 1 0 none 0 0 kp ys.length kc w4 hr4)
    clear hpo hown hK hmap hr4 hg4
    obtain ⟨nl, hnl⟩ : ∃ nl, nl = ys.length := ⟨_, rfl⟩
    have HNL := Lib.hid hnl
    rw [← hnl] at HO5 HK5 HB ⊢
    clear hnl
    go_wp2_with fail
    refine HB.out.mono ?_
    rintro e w7 ⟨rfl, hb7⟩
    have HL := node_lies (w0 := w) (w1 := w) (N := w.heap.size + 1) 1 0 0 n4 (names_none (w := w7)) (by rw [← HNL.out]; exact ownsRow_below HO5.out hb7) (HK5.out.step hb7)
    have FIN := Lib.hid (fin_box (o := tot) (node 1 0 n4 [] l) 1 0 0 n4 none 0 0 _ kp nl kc ys (HR5.out.step hb7) (grown_trans HG5.out (grown_below hb7 _)) hgl hgwl HEQ.out HL.1 HL.2 (by rw [← HMAP.out]; simp [Br.pb, pbs_map, node]))
    clear HL hb7
    have c0 := FIN.out.c0
    have c1 := FIN.out.c1
    have c2 := FIN.out.c2
    have c3 := FIN.out.c3
    have c4 := FIN.out.c4
    have c5 := FIN.out.c5
    have f0 := FIN.out.fz 0
    have f1 := FIN.out.fz 1
    have f2 := FIN.out.fz 2
    have f3 := FIN.out.fz 3
    have f4 := FIN.out.fz 4
    have f5 := FIN.out.fz 5
    go_wp2_with fail
    obtain ⟨_, _, _, _, _, _, _, d0, d1, d2, d3, d4, d5, hfin⟩ := FIN.out
    refine bodyPost_ret (by simp [results, Tryz.results23, go_sem, d0, d1, d2, d3, d4, d5, Result.andThen]; try rfl) rfl ?_
    exact hfin
  · exact ⟨rfl, Or.inr ⟨ch, by rw [HTOT.out]; exact pan_bind ho, rfl, grown_trans (grown_below ((Below.refl _ _).alloc (Nat.le_refl _) _) _) hg4⟩⟩
end Go.Proofs.YtkjgkchdkeggoaaGreatDoor

namespace Go.Proofs.YtkjgkchdkeggoaaGreatDoor
open Go.RowKit
set_option maxRecDepth 20000
set_option linter.unusedVariables false
set_option linter.unusedSimpArgs false

theorem cf44 (args : Array Value) (w : World) : Sem.run Tryz.prog (callFunc 44 args) w = .ok (.enter 44 args) w := cf_enter Tryz.func44 (by kernel_rfl) (by kernel_rfl) args w
/-- An ending told from a later world. -/
theorem Ends.from {S : Src} {d : Nat} {w w1 : World} {o : Out Pb} {e : Ending} {w' : World} (h : Ends S d w1 o (RB w1) e w') (hb : Below w.heap.size w w1) : Ends S d w o (RB w) e w' := by
  rcases h with ⟨x, n, v, ho, he, ⟨y, hv, hl, hy, hp⟩, hr, hg⟩ | ⟨ch, ho, he, hg⟩
  · exact .inl ⟨x, n, v, ho, he, ⟨y, hv, hl, hy.mono (fun q hq => Nat.le_trans hb.size hq) _, hp⟩, hr, grown_trans (grown_below hb _) hg⟩
  · exact .inr ⟨ch, ho, he, grown_trans (grown_below hb _) hg⟩
set_option maxHeartbeats 1000000 in
theorem ty_any (S : Src) (F : Nat) (rec : Nt → Nat → Nat → Out Pb) (d : Nat) (hs : Said S rec (d + 1)) (hF0 : F ≤ 1000000000) (n : Nat) (w : World) (h : Rd w S n d) (hdry : (bif d == 256 then Out.deep n else tyO S F rec (d + 1) n) ≠ .dry) :
    Calls Tryz.prog 31 #[.pointer (some ⟨S.g, 0, none⟩)] w fun e w' => Ends S d w (bif d == 256 then Out.deep n else tyO S F rec (d + 1) n) (RB w) e w' := by
  have hgl := h.lt
  have hgwl := h.row
  have hb1 : Below w.heap.size w (w.alloc (.cells #[.pointer (some ⟨S.g, 0, none⟩)] 56)) := (Below.refl w.heap.size w).alloc (Nat.le_refl _) _
  have hr1 := h.step hb1
  have hz1 : (w.alloc (.cells #[.pointer (some ⟨S.g, 0, none⟩)] 56)).heap.size = w.heap.size + 1 := by simp
  have hb2 : Below (w.alloc (.cells #[.pointer (some ⟨S.g, 0, none⟩)] 56)).heap.size (w.alloc (.cells #[.pointer (some ⟨S.g, 0, none⟩)] 56)) ((w.alloc (.cells #[.pointer (some ⟨S.g, 0, none⟩)] 56)).alloc boxZ) := (Below.refl _ _).alloc (Nat.le_refl _) _
  have hr2 := hr1.step hb2
  have hx1 := heap_alloc_new w (.cells #[.pointer (some ⟨S.g, 0, none⟩)] 56)
  have hx2 := (hb2.block w.heap.size (by simp)).trans hx1
  have qb : ((w.alloc (.cells #[.pointer (some ⟨S.g, 0, none⟩)] 56)).alloc boxZ).cell? ⟨w.heap.size, 0, none⟩ = some (.pointer (some ⟨S.g, 0, none⟩)) := Lib.cell_of_heap hx2 0
  have HP := Lib.hid (rpart_any 44 #[.pointer (some ⟨w.heap.size, 0, none⟩)] cf44 S n d (tyO S F rec (d + 1) n) _ hr2
    (fun hd w' hr hg ho => tyC_any S F rec (d + 1) hs hF0 w.heap.size n w' hr ((hg.block w.heap.size (by simp; omega) (fun e => by have := Option.some.inj e; omega)).trans hx2) (by omega) ho) hdry)
  have HB1 := Lib.hid hb1
  generalize (bif d == 256 then Out.deep n else tyO S F rec (d + 1) n) = tot at *
  have HG2 : Hid (((w.alloc (.cells #[.pointer (some ⟨S.g, 0, none⟩)] 56)).alloc boxZ).grownBy ((w.alloc (.cells #[.pointer (some ⟨S.g, 0, none⟩)] 56)).alloc boxZ) (some S.g)) := Lib.hid (grown_same _ _)
  clear hr1 hb1 hr2 hb2 h hdry hx1 hx2
  go_enter Tryz.func31, Tryz.ntmps31
  go_wp2_with fail
  refine HP.out.mono ?_
  rintro e w2 (⟨b, n2, v, hpo, rfl, ⟨y, rfl, hyl, hyo, hyp⟩, hr2, hg2⟩ | ⟨ch, ho, rfl, hg2⟩)
  · obtain ⟨⟨yk, ym, yf, yt, ynp, ynn, ync, yns, ykp, ykn, ykc⟩, yks⟩ := y
    have FIN := Lib.hid (fin_box (w := w.alloc (.cells #[.pointer (some ⟨S.g, 0, none⟩)] 56)) (o := tot) b yk ym yf yt ynp ynn ync yns ykp ykn ykc yks hr2 hg2 (by omega) (by omega) hpo hyl (hyo.mono (fun q hq => by simpa using hq) _) hyp)
    clear hpo hyl hyo hyp hr2 hg2 HP
    simp only [Hd.val, Br.h] at *
    have c0 := FIN.out.c0
    have c1 := FIN.out.c1
    have c2 := FIN.out.c2
    have c3 := FIN.out.c3
    have c4 := FIN.out.c4
    have c5 := FIN.out.c5
    have f0 := FIN.out.fz 0
    have f1 := FIN.out.fz 1
    have f2 := FIN.out.fz 2
    have f3 := FIN.out.fz 3
    have f4 := FIN.out.fz 4
    have f5 := FIN.out.fz 5
    rw [hz1] at c0 c1 c2 c3 c4 c5 f0 f1 f2 f3 f4 f5
    go_wp2_with fail
    obtain ⟨_, _, _, _, _, _, _, d0, d1, d2, d3, d4, d5, hfin⟩ := FIN.out
    have hfin := Ends.from hfin HB1.out
    rw [hz1] at d0 d1 d2 d3 d4 d5 hfin
    refine bodyPost_ret (by simp [results, Tryz.results31, go_sem, d0, d1, d2, d3, d4, d5, Result.andThen]; try rfl) rfl ?_
    exact hfin
  · exact ⟨rfl, Or.inr ⟨ch, ho, rfl, grown_trans (grown_below (HB1.out.trans (((Below.refl _ _).alloc (Nat.le_refl _) _).mono (by simp))) _) hg2⟩⟩
end Go.Proofs.YtkjgkchdkeggoaaGreatDoor

namespace Go.Proofs.YtkjgkchdkeggoaaGreatDoor
open Go.RowKit
set_option maxRecDepth 20000
set_option linter.unusedVariables false
set_option linter.unusedSimpArgs false

theorem cf68 (args : Array Value) (w : World) : Sem.run Tryz.prog (callFunc 68 args) w = .ok (.enter 68 args) w := cf_enter Tryz.func68 (by kernel_rfl) (by kernel_rfl) args w
set_option maxHeartbeats 1000000 in
theorem pat_shell (S : Src) (o : Out Pb) (d n : Nat) (w : World) (h : Rd w S n d)
    (hC : d < 256 → ∀ (bx : Nat) (w' : World), Rd w' S n (d + 1) → w'.heap[bx]? = some (.cells #[.pointer (some ⟨S.g, 0, none⟩)] 56 (0, 0)) → bx ≠ S.g → o ≠ .dry → Calls Tryz.prog 68 #[.int .i64 (n : Int), .pointer (some ⟨bx, 0, none⟩)] w' fun e w'' => Ends S (d + 1) w' o (RB w') e w'')
    (hdry : (bif d == 256 then Out.deep n else o) ≠ .dry) :
    Calls Tryz.prog 41 #[.pointer (some ⟨S.g, 0, none⟩)] w fun e w' => Ends S d w (bif d == 256 then Out.deep n else o) (RB w) e w' := by
  have hgl := h.lt
  have hgwl := h.row
  have hb1 : Below w.heap.size w (w.alloc (.cells #[.pointer (some ⟨S.g, 0, none⟩)] 56)) := (Below.refl w.heap.size w).alloc (Nat.le_refl _) _
  have hr1 := h.step hb1
  have hz1 : (w.alloc (.cells #[.pointer (some ⟨S.g, 0, none⟩)] 56)).heap.size = w.heap.size + 1 := by simp
  have hb2 : Below (w.alloc (.cells #[.pointer (some ⟨S.g, 0, none⟩)] 56)).heap.size (w.alloc (.cells #[.pointer (some ⟨S.g, 0, none⟩)] 56)) ((w.alloc (.cells #[.pointer (some ⟨S.g, 0, none⟩)] 56)).alloc boxZ) := (Below.refl _ _).alloc (Nat.le_refl _) _
  have hr2 := hr1.step hb2
  have hx1 := heap_alloc_new w (.cells #[.pointer (some ⟨S.g, 0, none⟩)] 56)
  have hx2 := (hb2.block w.heap.size (by simp)).trans hx1
  have qb : ((w.alloc (.cells #[.pointer (some ⟨S.g, 0, none⟩)] 56)).alloc boxZ).cell? ⟨w.heap.size, 0, none⟩ = some (.pointer (some ⟨S.g, 0, none⟩)) := Lib.cell_of_heap hx2 0
  have HP := Lib.hid (rpart_any 68 #[.pointer (some ⟨w.heap.size, 0, none⟩)] cf68 S n d o _ hr2
    (fun hd w' hr hg ho => hC hd w.heap.size w' hr ((hg.block w.heap.size (by simp; omega) (fun e => by have := Option.some.inj e; omega)).trans hx2) (by omega) ho) hdry)
  have HB1 := Lib.hid hb1
  generalize (bif d == 256 then Out.deep n else o) = tot at *
  have HG2 : Hid (((w.alloc (.cells #[.pointer (some ⟨S.g, 0, none⟩)] 56)).alloc boxZ).grownBy ((w.alloc (.cells #[.pointer (some ⟨S.g, 0, none⟩)] 56)).alloc boxZ) (some S.g)) := Lib.hid (grown_same _ _)
  clear hr1 hb1 hr2 hb2 h hdry hx1 hx2 hC
  go_enter Tryz.func41, Tryz.ntmps41
  go_wp2_with fail
  refine HP.out.mono ?_
  rintro e w2 (⟨b, n2, v, hpo, rfl, ⟨y, rfl, hyl, hyo, hyp⟩, hr2, hg2⟩ | ⟨ch, ho, rfl, hg2⟩)
  · obtain ⟨⟨yk, ym, yf, yt, ynp, ynn, ync, yns, ykp, ykn, ykc⟩, yks⟩ := y
    have FIN := Lib.hid (fin_box (w := w.alloc (.cells #[.pointer (some ⟨S.g, 0, none⟩)] 56)) (o := tot) b yk ym yf yt ynp ynn ync yns ykp ykn ykc yks hr2 hg2 (by omega) (by omega) hpo hyl (hyo.mono (fun q hq => by simpa using hq) _) hyp)
    clear hpo hyl hyo hyp hr2 hg2 HP
    simp only [Hd.val, Br.h] at *
    have c0 := FIN.out.c0
    have c1 := FIN.out.c1
    have c2 := FIN.out.c2
    have c3 := FIN.out.c3
    have c4 := FIN.out.c4
    have c5 := FIN.out.c5
    have f0 := FIN.out.fz 0
    have f1 := FIN.out.fz 1
    have f2 := FIN.out.fz 2
    have f3 := FIN.out.fz 3
    have f4 := FIN.out.fz 4
    have f5 := FIN.out.fz 5
    rw [hz1] at c0 c1 c2 c3 c4 c5 f0 f1 f2 f3 f4 f5
    go_wp2_with fail
    obtain ⟨_, _, _, _, _, _, _, d0, d1, d2, d3, d4, d5, hfin⟩ := FIN.out
    have hfin := Ends.from hfin HB1.out
    rw [hz1] at d0 d1 d2 d3 d4 d5 hfin
    refine bodyPost_ret (by simp [results, Tryz.results41, go_sem, d0, d1, d2, d3, d4, d5, Result.andThen]; try rfl) rfl ?_
    exact hfin
  · exact ⟨rfl, Or.inr ⟨ch, ho, rfl, grown_trans (grown_below (HB1.out.trans (((Below.refl _ _).alloc (Nat.le_refl _) _).mono (by simp))) _) hg2⟩⟩
theorem cf47 (args : Array Value) (w : World) : Sem.run Tryz.prog (callFunc 47 args) w = .ok (.enter 47 args) w := cf_enter Tryz.func47 (by kernel_rfl) (by kernel_rfl) args w
set_option maxHeartbeats 1000000 in
theorem exp_shell (S : Src) (o : Out Pb) (d n : Nat) (w : World) (h : Rd w S n d)
    (hC : d < 256 → ∀ (bx : Nat) (w' : World), Rd w' S n (d + 1) → w'.heap[bx]? = some (.cells #[.pointer (some ⟨S.g, 0, none⟩)] 56 (0, 0)) → bx ≠ S.g → o ≠ .dry → Calls Tryz.prog 47 #[.int .i64 (n : Int), .pointer (some ⟨bx, 0, none⟩)] w' fun e w'' => Ends S (d + 1) w' o (RB w') e w'')
    (hdry : (bif d == 256 then Out.deep n else o) ≠ .dry) :
    Calls Tryz.prog 32 #[.pointer (some ⟨S.g, 0, none⟩)] w fun e w' => Ends S d w (bif d == 256 then Out.deep n else o) (RB w) e w' := by
  have hgl := h.lt
  have hgwl := h.row
  have hb1 : Below w.heap.size w (w.alloc (.cells #[.pointer (some ⟨S.g, 0, none⟩)] 56)) := (Below.refl w.heap.size w).alloc (Nat.le_refl _) _
  have hr1 := h.step hb1
  have hz1 : (w.alloc (.cells #[.pointer (some ⟨S.g, 0, none⟩)] 56)).heap.size = w.heap.size + 1 := by simp
  have hb2 : Below (w.alloc (.cells #[.pointer (some ⟨S.g, 0, none⟩)] 56)).heap.size (w.alloc (.cells #[.pointer (some ⟨S.g, 0, none⟩)] 56)) ((w.alloc (.cells #[.pointer (some ⟨S.g, 0, none⟩)] 56)).alloc boxZ) := (Below.refl _ _).alloc (Nat.le_refl _) _
  have hr2 := hr1.step hb2
  have hx1 := heap_alloc_new w (.cells #[.pointer (some ⟨S.g, 0, none⟩)] 56)
  have hx2 := (hb2.block w.heap.size (by simp)).trans hx1
  have qb : ((w.alloc (.cells #[.pointer (some ⟨S.g, 0, none⟩)] 56)).alloc boxZ).cell? ⟨w.heap.size, 0, none⟩ = some (.pointer (some ⟨S.g, 0, none⟩)) := Lib.cell_of_heap hx2 0
  have HP := Lib.hid (rpart_any 47 #[.pointer (some ⟨w.heap.size, 0, none⟩)] cf47 S n d o _ hr2
    (fun hd w' hr hg ho => hC hd w.heap.size w' hr ((hg.block w.heap.size (by simp; omega) (fun e => by have := Option.some.inj e; omega)).trans hx2) (by omega) ho) hdry)
  have HB1 := Lib.hid hb1
  generalize (bif d == 256 then Out.deep n else o) = tot at *
  have HG2 : Hid (((w.alloc (.cells #[.pointer (some ⟨S.g, 0, none⟩)] 56)).alloc boxZ).grownBy ((w.alloc (.cells #[.pointer (some ⟨S.g, 0, none⟩)] 56)).alloc boxZ) (some S.g)) := Lib.hid (grown_same _ _)
  clear hr1 hb1 hr2 hb2 h hdry hx1 hx2 hC
  go_enter Tryz.func32, Tryz.ntmps32
  go_wp2_with fail
  refine HP.out.mono ?_
  rintro e w2 (⟨b, n2, v, hpo, rfl, ⟨y, rfl, hyl, hyo, hyp⟩, hr2, hg2⟩ | ⟨ch, ho, rfl, hg2⟩)
  · obtain ⟨⟨yk, ym, yf, yt, ynp, ynn, ync, yns, ykp, ykn, ykc⟩, yks⟩ := y
    have FIN := Lib.hid (fin_box (w := w.alloc (.cells #[.pointer (some ⟨S.g, 0, none⟩)] 56)) (o := tot) b yk ym yf yt ynp ynn ync yns ykp ykn ykc yks hr2 hg2 (by omega) (by omega) hpo hyl (hyo.mono (fun q hq => by simpa using hq) _) hyp)
    clear hpo hyl hyo hyp hr2 hg2 HP
    simp only [Hd.val, Br.h] at *
    have c0 := FIN.out.c0
    have c1 := FIN.out.c1
    have c2 := FIN.out.c2
    have c3 := FIN.out.c3
    have c4 := FIN.out.c4
    have c5 := FIN.out.c5
    have f0 := FIN.out.fz 0
    have f1 := FIN.out.fz 1
    have f2 := FIN.out.fz 2
    have f3 := FIN.out.fz 3
    have f4 := FIN.out.fz 4
    have f5 := FIN.out.fz 5
    rw [hz1] at c0 c1 c2 c3 c4 c5 f0 f1 f2 f3 f4 f5
    go_wp2_with fail
    obtain ⟨_, _, _, _, _, _, _, d0, d1, d2, d3, d4, d5, hfin⟩ := FIN.out
    have hfin := Ends.from hfin HB1.out
    rw [hz1] at d0 d1 d2 d3 d4 d5 hfin
    refine bodyPost_ret (by simp [results, Tryz.results32, go_sem, d0, d1, d2, d3, d4, d5, Result.andThen]; try rfl) rfl ?_
    exact hfin
  · exact ⟨rfl, Or.inr ⟨ch, ho, rfl, grown_trans (grown_below (HB1.out.trans (((Below.refl _ _).alloc (Nat.le_refl _) _).mono (by simp))) _) hg2⟩⟩
theorem cf73 (args : Array Value) (w : World) : Sem.run Tryz.prog (callFunc 73 args) w = .ok (.enter 73 args) w := cf_enter Tryz.func73 (by kernel_rfl) (by kernel_rfl) args w
set_option maxHeartbeats 1000000 in
theorem sig_shell (S : Src) (o : Out Pb) (d n : Nat) (w : World) (h : Rd w S n d)
    (hC : d < 256 → ∀ (bx : Nat) (w' : World), Rd w' S n (d + 1) → w'.heap[bx]? = some (.cells #[.pointer (some ⟨S.g, 0, none⟩)] 56 (0, 0)) → bx ≠ S.g → o ≠ .dry → Calls Tryz.prog 73 #[.int .i64 (n : Int), .pointer (some ⟨bx, 0, none⟩)] w' fun e w'' => Ends S (d + 1) w' o (RB w') e w'')
    (hdry : (bif d == 256 then Out.deep n else o) ≠ .dry) :
    Calls Tryz.prog 42 #[.pointer (some ⟨S.g, 0, none⟩)] w fun e w' => Ends S d w (bif d == 256 then Out.deep n else o) (RB w) e w' := by
  have hgl := h.lt
  have hgwl := h.row
  have hb1 : Below w.heap.size w (w.alloc (.cells #[.pointer (some ⟨S.g, 0, none⟩)] 56)) := (Below.refl w.heap.size w).alloc (Nat.le_refl _) _
  have hr1 := h.step hb1
  have hz1 : (w.alloc (.cells #[.pointer (some ⟨S.g, 0, none⟩)] 56)).heap.size = w.heap.size + 1 := by simp
  have hb2 : Below (w.alloc (.cells #[.pointer (some ⟨S.g, 0, none⟩)] 56)).heap.size (w.alloc (.cells #[.pointer (some ⟨S.g, 0, none⟩)] 56)) ((w.alloc (.cells #[.pointer (some ⟨S.g, 0, none⟩)] 56)).alloc boxZ) := (Below.refl _ _).alloc (Nat.le_refl _) _
  have hr2 := hr1.step hb2
  have hx1 := heap_alloc_new w (.cells #[.pointer (some ⟨S.g, 0, none⟩)] 56)
  have hx2 := (hb2.block w.heap.size (by simp)).trans hx1
  have qb : ((w.alloc (.cells #[.pointer (some ⟨S.g, 0, none⟩)] 56)).alloc boxZ).cell? ⟨w.heap.size, 0, none⟩ = some (.pointer (some ⟨S.g, 0, none⟩)) := Lib.cell_of_heap hx2 0
  have HP := Lib.hid (rpart_any 73 #[.pointer (some ⟨w.heap.size, 0, none⟩)] cf73 S n d o _ hr2
    (fun hd w' hr hg ho => hC hd w.heap.size w' hr ((hg.block w.heap.size (by simp; omega) (fun e => by have := Option.some.inj e; omega)).trans hx2) (by omega) ho) hdry)
  have HB1 := Lib.hid hb1
  generalize (bif d == 256 then Out.deep n else o) = tot at *
  have HG2 : Hid (((w.alloc (.cells #[.pointer (some ⟨S.g, 0, none⟩)] 56)).alloc boxZ).grownBy ((w.alloc (.cells #[.pointer (some ⟨S.g, 0, none⟩)] 56)).alloc boxZ) (some S.g)) := Lib.hid (grown_same _ _)
  clear hr1 hb1 hr2 hb2 h hdry hx1 hx2 hC
  go_enter Tryz.func42, Tryz.ntmps42
  go_wp2_with fail
  refine HP.out.mono ?_
  rintro e w2 (⟨b, n2, v, hpo, rfl, ⟨y, rfl, hyl, hyo, hyp⟩, hr2, hg2⟩ | ⟨ch, ho, rfl, hg2⟩)
  · obtain ⟨⟨yk, ym, yf, yt, ynp, ynn, ync, yns, ykp, ykn, ykc⟩, yks⟩ := y
    have FIN := Lib.hid (fin_box (w := w.alloc (.cells #[.pointer (some ⟨S.g, 0, none⟩)] 56)) (o := tot) b yk ym yf yt ynp ynn ync yns ykp ykn ykc yks hr2 hg2 (by omega) (by omega) hpo hyl (hyo.mono (fun q hq => by simpa using hq) _) hyp)
    clear hpo hyl hyo hyp hr2 hg2 HP
    simp only [Hd.val, Br.h] at *
    have c0 := FIN.out.c0
    have c1 := FIN.out.c1
    have c2 := FIN.out.c2
    have c3 := FIN.out.c3
    have c4 := FIN.out.c4
    have c5 := FIN.out.c5
    have f0 := FIN.out.fz 0
    have f1 := FIN.out.fz 1
    have f2 := FIN.out.fz 2
    have f3 := FIN.out.fz 3
    have f4 := FIN.out.fz 4
    have f5 := FIN.out.fz 5
    rw [hz1] at c0 c1 c2 c3 c4 c5 f0 f1 f2 f3 f4 f5
    go_wp2_with fail
    obtain ⟨_, _, _, _, _, _, _, d0, d1, d2, d3, d4, d5, hfin⟩ := FIN.out
    have hfin := Ends.from hfin HB1.out
    rw [hz1] at d0 d1 d2 d3 d4 d5 hfin
    refine bodyPost_ret (by simp [results, Tryz.results42, go_sem, d0, d1, d2, d3, d4, d5, Result.andThen]; try rfl) rfl ?_
    exact hfin
  · exact ⟨rfl, Or.inr ⟨ch, ho, rfl, grown_trans (grown_below (HB1.out.trans (((Below.refl _ _).alloc (Nat.le_refl _) _).mono (by simp))) _) hg2⟩⟩
theorem cf134 (args : Array Value) (w : World) : Sem.run Tryz.prog (callFunc 134 args) w = .ok (.enter 134 args) w := cf_enter Tryz.func134 (by kernel_rfl) (by kernel_rfl) args w
set_option maxHeartbeats 1000000 in
theorem str_shell (S : Src) (o : Out Pb) (d n : Nat) (w : World) (h : Rd w S n d)
    (hC : d < 256 → ∀ (bx : Nat) (w' : World), Rd w' S n (d + 1) → w'.heap[bx]? = some (.cells #[.pointer (some ⟨S.g, 0, none⟩)] 56 (0, 0)) → bx ≠ S.g → o ≠ .dry → Calls Tryz.prog 134 #[.int .i64 (n : Int), .pointer (some ⟨bx, 0, none⟩)] w' fun e w'' => Ends S (d + 1) w' o (RB w') e w'')
    (hdry : (bif d == 256 then Out.deep n else o) ≠ .dry) :
    Calls Tryz.prog 125 #[.pointer (some ⟨S.g, 0, none⟩)] w fun e w' => Ends S d w (bif d == 256 then Out.deep n else o) (RB w) e w' := by
  have hgl := h.lt
  have hgwl := h.row
  have hb1 : Below w.heap.size w (w.alloc (.cells #[.pointer (some ⟨S.g, 0, none⟩)] 56)) := (Below.refl w.heap.size w).alloc (Nat.le_refl _) _
  have hr1 := h.step hb1
  have hz1 : (w.alloc (.cells #[.pointer (some ⟨S.g, 0, none⟩)] 56)).heap.size = w.heap.size + 1 := by simp
  have hb2 : Below (w.alloc (.cells #[.pointer (some ⟨S.g, 0, none⟩)] 56)).heap.size (w.alloc (.cells #[.pointer (some ⟨S.g, 0, none⟩)] 56)) ((w.alloc (.cells #[.pointer (some ⟨S.g, 0, none⟩)] 56)).alloc boxZ) := (Below.refl _ _).alloc (Nat.le_refl _) _
  have hr2 := hr1.step hb2
  have hx1 := heap_alloc_new w (.cells #[.pointer (some ⟨S.g, 0, none⟩)] 56)
  have hx2 := (hb2.block w.heap.size (by simp)).trans hx1
  have qb : ((w.alloc (.cells #[.pointer (some ⟨S.g, 0, none⟩)] 56)).alloc boxZ).cell? ⟨w.heap.size, 0, none⟩ = some (.pointer (some ⟨S.g, 0, none⟩)) := Lib.cell_of_heap hx2 0
  have HP := Lib.hid (rpart_any 134 #[.pointer (some ⟨w.heap.size, 0, none⟩)] cf134 S n d o _ hr2
    (fun hd w' hr hg ho => hC hd w.heap.size w' hr ((hg.block w.heap.size (by simp; omega) (fun e => by have := Option.some.inj e; omega)).trans hx2) (by omega) ho) hdry)
  have HB1 := Lib.hid hb1
  generalize (bif d == 256 then Out.deep n else o) = tot at *
  have HG2 : Hid (((w.alloc (.cells #[.pointer (some ⟨S.g, 0, none⟩)] 56)).alloc boxZ).grownBy ((w.alloc (.cells #[.pointer (some ⟨S.g, 0, none⟩)] 56)).alloc boxZ) (some S.g)) := Lib.hid (grown_same _ _)
  clear hr1 hb1 hr2 hb2 h hdry hx1 hx2 hC
  go_enter Tryz.func125, Tryz.ntmps125
  go_wp2_with fail
  refine HP.out.mono ?_
  rintro e w2 (⟨b, n2, v, hpo, rfl, ⟨y, rfl, hyl, hyo, hyp⟩, hr2, hg2⟩ | ⟨ch, ho, rfl, hg2⟩)
  · obtain ⟨⟨yk, ym, yf, yt, ynp, ynn, ync, yns, ykp, ykn, ykc⟩, yks⟩ := y
    have FIN := Lib.hid (fin_box (w := w.alloc (.cells #[.pointer (some ⟨S.g, 0, none⟩)] 56)) (o := tot) b yk ym yf yt ynp ynn ync yns ykp ykn ykc yks hr2 hg2 (by omega) (by omega) hpo hyl (hyo.mono (fun q hq => by simpa using hq) _) hyp)
    clear hpo hyl hyo hyp hr2 hg2 HP
    simp only [Hd.val, Br.h] at *
    have c0 := FIN.out.c0
    have c1 := FIN.out.c1
    have c2 := FIN.out.c2
    have c3 := FIN.out.c3
    have c4 := FIN.out.c4
    have c5 := FIN.out.c5
    have f0 := FIN.out.fz 0
    have f1 := FIN.out.fz 1
    have f2 := FIN.out.fz 2
    have f3 := FIN.out.fz 3
    have f4 := FIN.out.fz 4
    have f5 := FIN.out.fz 5
    rw [hz1] at c0 c1 c2 c3 c4 c5 f0 f1 f2 f3 f4 f5
    go_wp2_with fail
    obtain ⟨_, _, _, _, _, _, _, d0, d1, d2, d3, d4, d5, hfin⟩ := FIN.out
    have hfin := Ends.from hfin HB1.out
    rw [hz1] at d0 d1 d2 d3 d4 d5 hfin
    refine bodyPost_ret (by simp [results, Tryz.results125, go_sem, d0, d1, d2, d3, d4, d5, Result.andThen]; try rfl) rfl ?_
    exact hfin
  · exact ⟨rfl, Or.inr ⟨ch, ho, rfl, grown_trans (grown_below (HB1.out.trans (((Below.refl _ _).alloc (Nat.le_refl _) _).mono (by simp))) _) hg2⟩⟩
end Go.Proofs.YtkjgkchdkeggoaaGreatDoor

namespace Go.Proofs.YtkjgkchdkeggoaaGreatDoor
open Go.RowKit
set_option maxRecDepth 20000
set_option linter.unusedVariables false
set_option linter.unusedSimpArgs false

theorem cf82 (args : Array Value) (w : World) : Sem.run Tryz.prog (callFunc 82 args) w = .ok (.enter 82 args) w := cf_enter Tryz.func82 (by kernel_rfl) (by kernel_rfl) args w
set_option maxHeartbeats 1000000 in
theorem dec_shell (S : Src) (o : Out Pb) (at_ d n : Nat) (w : World) (h : Rd w S n d)
    (hC : d < 256 → ∀ (bx byy : Nat) (w' : World), Rd w' S n (d + 1) → w'.heap[bx]? = some (.cells #[.pointer (some ⟨S.g, 0, none⟩)] 56 (0, 0)) → bx ≠ S.g → w'.heap[byy]? = some (.cells #[.int .i64 (at_ : Int)] 3 (0, 0)) → byy ≠ S.g → o ≠ .dry → Calls Tryz.prog 82 #[.int .i64 (n : Int), .pointer (some ⟨bx, 0, none⟩), .pointer (some ⟨byy, 0, none⟩)] w' fun e w'' => Ends S (d + 1) w' o (RB w') e w'')
    (hdry : (bif d == 256 then Out.deep n else o) ≠ .dry) :
    Calls Tryz.prog 60 #[.pointer (some ⟨S.g, 0, none⟩), .int .i64 (at_ : Int)] w fun e w' => Ends S d w (bif d == 256 then Out.deep n else o) (RB w) e w' := by
  have hgl := h.lt
  have hgwl := h.row
  have hb0 : Below w.heap.size w (w.alloc (Obj.cells #[.pointer (some ⟨S.g, 0, none⟩)] 56)) := (Below.refl w.heap.size w).alloc (Nat.le_refl _) _
  have hb0' : Below (w.alloc (Obj.cells #[.pointer (some ⟨S.g, 0, none⟩)] 56)).heap.size (w.alloc (Obj.cells #[.pointer (some ⟨S.g, 0, none⟩)] 56)) ((w.alloc (Obj.cells #[.pointer (some ⟨S.g, 0, none⟩)] 56)).alloc (Obj.cells #[.int .i64 (at_ : Int)] 3)) := (Below.refl _ _).alloc (Nat.le_refl _) _
  have hz0 : (w.alloc (Obj.cells #[.pointer (some ⟨S.g, 0, none⟩)] 56)).heap.size = w.heap.size + 1 := by simp
  have hb1 : Below w.heap.size w ((w.alloc (Obj.cells #[.pointer (some ⟨S.g, 0, none⟩)] 56)).alloc (Obj.cells #[.int .i64 (at_ : Int)] 3)) := hb0.trans (hb0'.mono (by omega))
  have hr1 := h.step hb1
  have hz1 : ((w.alloc (Obj.cells #[.pointer (some ⟨S.g, 0, none⟩)] 56)).alloc (Obj.cells #[.int .i64 (at_ : Int)] 3)).heap.size = w.heap.size + 1 + 1 := by simp
  have hb2 : Below ((w.alloc (Obj.cells #[.pointer (some ⟨S.g, 0, none⟩)] 56)).alloc (Obj.cells #[.int .i64 (at_ : Int)] 3)).heap.size ((w.alloc (Obj.cells #[.pointer (some ⟨S.g, 0, none⟩)] 56)).alloc (Obj.cells #[.int .i64 (at_ : Int)] 3)) (((w.alloc (Obj.cells #[.pointer (some ⟨S.g, 0, none⟩)] 56)).alloc (Obj.cells #[.int .i64 (at_ : Int)] 3)).alloc boxZ) := (Below.refl _ _).alloc (Nat.le_refl _) _
  have hr2 := hr1.step hb2
  have hx2 := (hb2.block w.heap.size (by omega)).trans ((hb0'.block w.heap.size (by omega)).trans (heap_alloc_new w (Obj.cells #[.pointer (some ⟨S.g, 0, none⟩)] 56)))
  have hy1 := heap_alloc_new (w.alloc (Obj.cells #[.pointer (some ⟨S.g, 0, none⟩)] 56)) (Obj.cells #[.int .i64 (at_ : Int)] 3)
  rw [hz0] at hy1
  have hy2 := (hb2.block (w.heap.size + 1) (by omega)).trans hy1
  have qb : (((w.alloc (Obj.cells #[.pointer (some ⟨S.g, 0, none⟩)] 56)).alloc (Obj.cells #[.int .i64 (at_ : Int)] 3)).alloc boxZ).cell? ⟨w.heap.size, 0, none⟩ = some (.pointer (some ⟨S.g, 0, none⟩)) := Lib.cell_of_heap hx2 0
  have HP := Lib.hid (rpart_any 82 #[.pointer (some ⟨w.heap.size, 0, none⟩), .pointer (some ⟨w.heap.size + 1, 0, none⟩)] cf82 S n d o _ hr2
    (fun hd w' hr hg ho => hC hd w.heap.size (w.heap.size + 1) w' hr ((hg.block w.heap.size (by simp; omega) (fun e => by have := Option.some.inj e; omega)).trans hx2) (by omega) ((hg.block (w.heap.size + 1) (by simp) (fun e => by have := Option.some.inj e; omega)).trans hy2) (by omega) ho) hdry)
  have HB1 := Lib.hid hb1
  generalize (bif d == 256 then Out.deep n else o) = tot at *
  have HG2 : Hid ((((w.alloc (Obj.cells #[.pointer (some ⟨S.g, 0, none⟩)] 56)).alloc (Obj.cells #[.int .i64 (at_ : Int)] 3)).alloc boxZ).grownBy (((w.alloc (Obj.cells #[.pointer (some ⟨S.g, 0, none⟩)] 56)).alloc (Obj.cells #[.int .i64 (at_ : Int)] 3)).alloc boxZ) (some S.g)) := Lib.hid (grown_same _ _)
  clear hr1 hb0 hb0' hz0 hb1 hr2 hb2 h hdry hx2 hy1 hy2 hC
  go_enter Tryz.func60, Tryz.ntmps60
  go_wp2_with fail
  refine HP.out.mono ?_
  rintro e w2 (⟨b, n2, v, hpo, rfl, ⟨y, rfl, hyl, hyo, hyp⟩, hr2, hg2⟩ | ⟨ch, ho, rfl, hg2⟩)
  · obtain ⟨⟨yk, ym, yf, yt, ynp, ynn, ync, yns, ykp, ykn, ykc⟩, yks⟩ := y
    have FIN := Lib.hid (fin_box (w := (w.alloc (Obj.cells #[.pointer (some ⟨S.g, 0, none⟩)] 56)).alloc (Obj.cells #[.int .i64 (at_ : Int)] 3)) (o := tot) b yk ym yf yt ynp ynn ync yns ykp ykn ykc yks hr2 hg2 (by omega) (by omega) hpo hyl (hyo.mono (fun q hq => by simpa using hq) _) hyp)
    clear hpo hyl hyo hyp hr2 hg2 HP
    simp only [Hd.val, Br.h] at *
    have c0 := FIN.out.c0
    have c1 := FIN.out.c1
    have c2 := FIN.out.c2
    have c3 := FIN.out.c3
    have c4 := FIN.out.c4
    have c5 := FIN.out.c5
    have f0 := FIN.out.fz 0
    have f1 := FIN.out.fz 1
    have f2 := FIN.out.fz 2
    have f3 := FIN.out.fz 3
    have f4 := FIN.out.fz 4
    have f5 := FIN.out.fz 5
    rw [hz1] at c0 c1 c2 c3 c4 c5 f0 f1 f2 f3 f4 f5
    go_wp2_with fail
    obtain ⟨_, _, _, _, _, _, _, d0, d1, d2, d3, d4, d5, hfin⟩ := FIN.out
    have hfin := Ends.from hfin HB1.out
    rw [hz1] at d0 d1 d2 d3 d4 d5 hfin
    refine bodyPost_ret (by simp [results, Tryz.results60, go_sem, d0, d1, d2, d3, d4, d5, Result.andThen]; try rfl) rfl ?_
    exact hfin
  · exact ⟨rfl, Or.inr ⟨ch, ho, rfl, grown_trans (grown_below (HB1.out.trans (((Below.refl _ _).alloc (Nat.le_refl _) _).mono (by simp; omega))) _) hg2⟩⟩
end Go.Proofs.YtkjgkchdkeggoaaGreatDoor

namespace Go.Proofs.YtkjgkchdkeggoaaGreatDoor
open Go.RowKit
set_option maxRecDepth 20000
set_option linter.unusedVariables false
set_option linter.unusedSimpArgs false

section
variable {S : Src} {w w1 W W' : World} {d n n' : Nat} {X : List (Nat × Obj)} {Ns : List (Value × List Nat)} {Ks : List (Value × List Br)}
theorem ownBlock_lt {W : World} {base E size n : Nat} {v : Value} {xs : List Value} (h : W.ownsRow base E size v n xs) {q : Nat} (hq : v.ownBlock = some q) : base ≤ q ∧ q < W.heap.size := h.lt q hq
theorem own_ne {W : World} {base b2 E E2 size s2 n n2 : Nat} {v v2 : Value} {xs xs2 : List Value} (h : W.ownsRow base E size v n xs) (h2 : W.ownsRow b2 E2 s2 v2 n2 xs2) (hE : E ≠ E2) {q : Nat} (hq : v.ownBlock = some q) : v2.ownBlock ≠ some q := by
  intro hq2
  rcases h.2 with ⟨rfl, _⟩ | ⟨g, c, cur, rfl, _, hg, _⟩
  · cases hq
  · rcases h2.2 with ⟨rfl, _⟩ | ⟨g2, c2, cur2, rfl, _, hg2, _⟩
    · cases hq2
    · have e1 : g = q := by simpa [Value.ownBlock] using hq
      have e2 : g2 = q := by simpa [Value.ownBlock] using hq2
      subst e1 e2
      rw [hg] at hg2
      injection hg2 with e
      injection e with _ e
      exact hE e
/-- What an append to the row of kids leaves. -/
theorem St.appK (h : St S w1 d ⟨X, [], Ns, Ks⟩ W n) {v : Value} {ys zs : List Br} (hv : (v, ys) ∈ Ks) {g c nl m : Nat} (hnl : ys.length = nl) (hm : zs.length = m) (hz : ∀ z ∈ zs, z.Lies W ∧ z.On (fun q => w1.heap.size ≤ q ∧ some q ≠ v.ownBlock))
    (hown : W'.ownsRow w1.heap.size 26 6 (.slice (some ⟨g, 0, none⟩) (nl + m) c) (nl + m) (cellsK ys ++ cellsK zs)) (hgrow : W.grownBy W' v.ownBlock) (hat : v.ownBlock = some g ∨ g = W.heap.size) :
    St S w1 d ⟨X, [], Ns, [(.slice (some ⟨g, 0, none⟩) (nl + m) c, ys ++ zs)]⟩ W' n := by
  obtain ⟨ho, hk⟩ := h.ks _ hv
  have hbl : ∀ q, v.ownBlock = some q → w1.heap.size ≤ q ∧ q < W.heap.size := fun q hq => ownBlock_lt ho hq
  have hlt := h.lt
  have hlw := h.lw
  refine ⟨h.rd.grow hgrow (fun e => by have := hbl _ e; omega) (fun e => by have := hbl _ e; omega), grown_own h.gr hgrow (fun q hq => (hbl q hq).1), hlt, hlw, fun p hp => ?_, fun p hp => (nomatch hp), fun p hp => ?_, fun p hp => ?_⟩
  · obtain ⟨h1, h2, h3⟩ := h.x p hp
    exact ⟨(hgrow.block _ (Array.getElem?_eq_some_iff.1 h1).1 (fun e => by have := hbl _ e.symm; omega)).trans h1, h2, h3⟩
  · have h1 := h.ns p hp
    cases hq : v.ownBlock with
    | none => exact h1.kept hgrow (by rw [hq]; exact Classical.em _)
    | some q => exact h1.kept hgrow (Or.inr (fun e => own_ne ho h1 (by decide) hq (by rw [← hq]; first | exact e | exact e.symm)))
  · obtain rfl := List.mem_singleton.1 hp
    have key : ∀ b : Br, b.Lies W → (b.On fun q => w1.heap.size ≤ q ∧ some q ≠ v.ownBlock) → b.Lies W' ∧ b.On fun q => w1.heap.size ≤ q ∧ some q ≠ (Value.slice (some ⟨g, 0, none⟩) (nl + m) c).ownBlock := fun b hl hb => by
      refine ⟨Br.Lies.kept (P := fun q => w1.heap.size ≤ q ∧ some q ≠ v.ownBlock) b hgrow.size (fun q hq hlt => hgrow.block q hlt hq.2) hb hl, (Br.On.low b hb hl).mono (fun q hq => ⟨hq.1.1, fun e => ?_⟩) _⟩
      have e1 : q = g := by simpa [Value.ownBlock] using e
      rcases hat with h2 | h2
      · exact hq.1.2 (by rw [e1, h2])
      · have := hq.2; omega
    refine ⟨?_, fun b hb => ?_⟩
    · have hl : (ys ++ zs).length = nl + m := by simp [hnl, hm]
      rw [hl, cellsK_append]
      exact hown
    · rcases List.mem_append.1 hb with hb | hb
      · exact key b (hk b hb).1 (hk b hb).2
      · exact key b (hz b hb).1 (hz b hb).2
theorem St.xlt {S : Src} {w1 W : World} {d n : Nat} {L : Live} (h : St S w1 d L W n) {b : Nat} {v : Value} {T : TypeId} (hx : (b, Obj.cells #[v] T (0, 0)) ∈ L.X) : b < W.heap.size := Nat.lt_of_lt_of_le (h.x _ hx).2.1 h.size
theorem apart_of {Wp : World} {N E size n : Nat} {v : Value} {xs : List Value} (ho : Wp.ownsRow N E size v n xs) (hs : N ≤ Wp.heap.size) {y : Br} (hyo : y.On (fun q => Wp.heap.size ≤ q)) : y.On (fun q => N ≤ q ∧ some q ≠ v.ownBlock) :=
  hyo.mono (fun q hq => ⟨Nat.le_trans hs hq, fun e => by have := (ho.lt q e.symm).2; omega⟩) _
theorem kids_apart {Wp W' : World} {N E size n : Nat} {v v2 : Value} {xs : List Value} {zs : List Br} (ho : Wp.ownsRow N E size v n xs) (hs : N ≤ Wp.heap.size) (hk : Kids Wp.heap.size v2 W' zs) : ∀ z ∈ zs, z.Lies W' ∧ z.On (fun q => N ≤ q ∧ some q ≠ v.ownBlock) :=
  fun z hz => ⟨(hk z hz).1, apart_of ho hs ((hk z hz).2.mono (fun q hq => hq.1) _)⟩
theorem cellsK_one (l : List Br) : ∀ u ∈ cellsK l, u.oneCell' = true := by
  induction l with
  | nil => intro u hu; cases hu
  | cons x r ih =>
    intro u hu
    rcases List.mem_append.1 hu with h | h
    · exact hcells_one _ u h
    · exact ih u h
/-- The walk's append to a row of kids. -/
theorem wpList_appK {ops : Array Oper} {rest : List Oper} {o : Oper} {a : Act} {Q : Exit → Act → World → Prop} (hgd : o.guard = none) (s x : Operand)
    (ho : o.op = .call { callee := .builtin .append, args := #[s, x], argTypes := #[24, 24] }) (H : Hid (St S w1 d ⟨X, [], Ns, Ks⟩ W n)) (v : Value) (ys zs : List Br) (hv : (v, ys) ∈ Ks) (nl m c : Nat) (hnl : ys.length = nl) (hs : a.eval s = v)
    (ad : Addr) (hx : a.eval x = .slice (some ad) m c) (hm : zs.length = m) (hnews : ∀ j u, (cellsK zs)[j]? = some u → W.cell? (ad.add j) = some u) (hz : ∀ z ∈ zs, z.Lies W ∧ z.On (fun q => w1.heap.size ≤ q ∧ some q ≠ v.ownBlock)) (h0 : 0 < m) (hmax : nl + m ≤ 1000000000000)
    (h : ∀ g cap w', Hid (St S w1 d ⟨X, [], Ns, [(.slice (some ⟨g, 0, none⟩) (nl + m) cap, ys ++ zs)]⟩ w' n) → wpList Tryz.prog ops Q rest (a.put o.dst (.slice (some ⟨g, 0, none⟩) (nl + m) cap)) w') : wpList Tryz.prog ops Q (o :: rest) a W := by
  obtain ⟨i0, hi0, hy0, hy1, hy2⟩ := info_parts info26b
  have hown := (H.out.ks _ hv).1
  simp only [hnl] at hown
  refine wpList_append_lies W hgd s x 24 ho w1.heap.size 26 i0 _ 6 80 Tryz.underlying24 hi0 hy0 hy1 hy2 rfl (by omega) v nl _ hs hown ad m c (cellsK zs) hx (by rw [cellsK_length, hm]) hnews (cellsK_one zs) h0 (by unfold maxLen; omega) (by omega) H.out.size _ rfl ?_
  intro g cap w' h1 h2 h3 h4
  exact h g cap w' (Lib.hid (H.out.appK hv hnl hm hz h1 h2 h3))
end
theorem news_one {W : World} {y : Br} : ∀ j u, (cellsK [y])[j]? = some u → (W.alloc (BC y.h)).cell? ((⟨W.heap.size, 0, none⟩ : Addr).add j) = some u := World.news_of_block (heap_alloc_new W (BC y.h))
theorem news_own {W : World} {base E size n c g : Nat} {zs : List Br} (h : W.ownsRow base E size (.slice (some ⟨g, 0, none⟩) n c) n (cellsK zs)) : ∀ j u, (cellsK zs)[j]? = some u → W.cell? ((⟨g, 0, none⟩ : Addr).add j) = some u := own_news h
theorem rowL_len {S : Src} {mark : List UInt8} {read : Nat → Out Pb} : ∀ {f : Nat} {acc l : List Pb} {n m : Nat}, rowL S mark read f acc n = .ok l m → acc.length ≤ l.length ∧ l.length ≤ acc.length + f := by
  intro f
  induction f with
  | zero => intro acc l n m h; cases h
  | succ f ih =>
    intro acc l n m h
    unfold rowL at h
    cases hi : S.is n mark <;> rw [hi] at h
    · simp only [cond_false] at h
      injection h with h1 _
      subst h1
      omega
    · simp only [cond_true] at h
      cases hr : read (n + 1) <;> rw [hr] at h
      · have := ih h
        simp only [List.length_append, List.length_cons, List.length_nil] at this
        omega
      all_goals cases h
theorem rowO_len {S : Src} {F : Nat} {mark : List UInt8} {read : Nat → Out Pb} {l : List Pb} {n m : Nat} (h : rowO S F mark read n = .ok l m) : 1 ≤ l.length ∧ l.length ≤ F + 1 := by
  unfold rowO at h
  cases hr : read n <;> rw [hr] at h
  · have := rowL_len h
    simp only [List.length_cons, List.length_nil] at this
    omega
  all_goals cases h
end Go.Proofs.YtkjgkchdkeggoaaGreatDoor

namespace Go.Proofs.YtkjgkchdkeggoaaGreatDoor
open Go.RowKit
set_option linter.unusedVariables false
set_option linter.unusedSimpArgs false

/-- Not dry; where it is something, so many tokens further at least, and still within. -/
def Fin (S : Src) (k n : Nat) {α : Type} : Out α → Prop
  | .ok _ m => n + k ≤ m ∧ m < S.ts.length
  | .dry => False
  | _ => True
theorem Fin.nd {S : Src} {k n : Nat} {α : Type} {o : Out α} (h : Fin S k n o) : o ≠ .dry := by intro e; subst e; exact h
theorem fin_bind {S : Src} {a b c n : Nat} {α β : Type} {o : Out α} {f : α → Nat → Out β} (h : Fin S a n o) (hc : c ≤ a + b) (hf : ∀ x m, n + a ≤ m → m < S.ts.length → Fin S b m (f x m)) : Fin S c n (o.bind f) := by
  cases o with
  | ok x m =>
    have h1 : n + a ≤ m := h.1
    have := hf x m h.1 h.2
    show Fin S c n (f x m)
    cases hx : f x m <;> rw [hx] at this <;> simp only [Fin] at this ⊢
    exact ⟨by omega, this.2⟩
  | form m => trivial
  | deep m => trivial
  | dry => exact h
theorem Fin.le {S : Src} {a b n : Nat} {α : Type} {o : Out α} (h : Fin S a n o) (hb : b ≤ a) : Fin S b n o := by
  cases o <;> simp only [Fin] at h ⊢
  exact ⟨by omega, h.2⟩
theorem Fin.at {S : Src} {a b n m : Nat} {α : Type} {o : Out α} (h : Fin S a m o) (hb : n + b ≤ m + a) : Fin S b n o := by
  cases o <;> simp only [Fin] at h ⊢
  exact ⟨by omega, h.2⟩
theorem fin_ok {S : Src} {k n m : Nat} {α : Type} {x : α} (h : n + k ≤ m) (hm : m < S.ts.length) : Fin S k n (.ok x m) := ⟨h, hm⟩
theorem fin_if {S : Src} {k n : Nat} {α : Type} {c : Bool} {a b : Out α} (ha : c = true → Fin S k n a) (hb : c = false → Fin S k n b) : Fin S k n (bif c then a else b) := by
  cases c
  · exact hb rfl
  · exact ha rfl

theorem Src.Good.more {S : Src} (g : S.Good) {n : Nat} (hn : n < S.ts.length) {t : List UInt8} (ht : t ≠ []) (hi : S.is n t = true) : n + 1 < S.ts.length := by
  rcases Nat.lt_or_ge (n + 1) S.ts.length with h1 | h1
  · exact h1
  · exfalso
    have hk := (g.fin n hn).2 (by omega)
    have he := g.endt _ (List.getElem_mem hn) hk
    unfold Src.is at hi
    rw [S.tx_at hn, he] at hi
    have : (S.s.extract S.ts[n].e S.ts[n].e).data.toList = [] := by
      apply List.eq_nil_of_length_eq_zero
      have h3 : (S.s.extract S.ts[n].e S.ts[n].e).size = 0 := by simp
      rw [← h3]; rfl
    rw [this] at hi
    cases t with
    | nil => exact ht rfl
    | cons a r => simp at hi
theorem Src.Good.moreK {S : Src} (g : S.Good) {n : Nat} (hn : n < S.ts.length) (hk : S.kd n ≠ 0) : n + 1 < S.ts.length := by
  rcases Nat.lt_or_ge (n + 1) S.ts.length with h1 | h1
  · exact h1
  · exact absurd ((S.kd_at hn).trans ((g.fin n hn).2 (by omega))) hk

/-- Where a part may be begun. -/
def Src.may (S : Src) : Nt → Nat → Prop
  | .dec _, n => declares S 2 n = true
  | _, _ => True

section
variable {S : Src} (g : S.Good)
include g
theorem need_fin {t : List UInt8} (ht : t ≠ []) {n : Nat} (hn : n < S.ts.length) : Fin S 1 n (S.need t n) := by
  unfold Src.need
  exact fin_if (fun h => fin_ok (Nat.le_refl _) (g.more hn ht h)) (fun _ => trivial)
theorem take_fin {ks : List Int} (hz : ks.contains 0 = false) {n : Nat} (hn : n < S.ts.length) : Fin S 1 n (S.take ks n) := by
  unfold Src.take
  refine fin_if (fun h => fin_ok (Nat.le_refl _) (g.moreK hn (fun e => ?_))) (fun _ => trivial)
  rw [e, hz] at h; cases h
theorem pathL_fin {ks : List Int} (hz : ks.contains 0 = false) : ∀ (f : Nat) (acc : List Nat) (n : Nat), n < S.ts.length → S.ts.length < f + n + 1 → Fin S 0 n (S.pathL ks f acc n) := by
  intro f
  induction f with
  | zero => intro acc n hn hf; omega
  | succ f ih =>
    intro acc n hn hf
    unfold Src.pathL
    refine fin_if (fun h => ?_) (fun _ => fin_ok (Nat.le_refl _) hn)
    simp only [Bool.and_eq_true] at h
    have h1 := g.more hn (by simp) h.2
    refine (fin_bind (take_fin g hz h1) (c := 1) (b := 0) (by omega) (fun x m hm hl => ih _ m hl (by omega))).at (by omega)
theorem path_fin {ks : List Int} (hz : ks.contains 0 = false) {n : Nat} (hn : n < S.ts.length) : Fin S 1 n (S.path ks n) := by
  unfold Src.path
  exact fin_bind (take_fin g hz hn) (by omega) (fun x m hm hl => pathL_fin g hz _ _ m hl (by omega))
theorem typePath_fin {n : Nat} (hn : n < S.ts.length) : Fin S 1 n (S.typePath n) := by
  unfold Src.typePath
  exact fin_bind (path_fin g (by decide) hn) (b := 0) (by omega) (fun x m hm hl => fin_if (fun _ => fin_ok (by omega) hl) (fun _ => trivial))
theorem value_fin {n : Nat} (hn : n < S.ts.length) : Fin S 1 n (S.value n) := by
  unfold Src.value
  refine fin_if (fun h => ?_) (fun _ => take_fin g (by decide) hn)
  exact (take_fin g (by decide) (g.more hn (by simp) h)).at (by omega)
theorem colon_fin {n : Nat} (hn : n < S.ts.length) : (S.colon n).2 < S.ts.length ∧ n ≤ (S.colon n).2 ∧ ((S.colon n).1 ≠ 0 → (S.colon n).2 = n + 1) ∧ ((S.colon n).1 = 0 → (S.colon n).2 = n) := by
  unfold Src.colon
  cases h : S.is n [58]
  · cases h2 : S.is n [58, 62]
    · simp [hn]
    · have := g.more hn (by simp) h2
      simp [this]
  · have := g.more hn (by simp) h
    simp [this]
theorem begins_more {o : List (List UInt8)} (ho : ∀ t ∈ o, t ≠ []) {n : Nat} (hn : n < S.ts.length) (h : S.begins o n = true) : n + 1 < S.ts.length := by
  unfold Src.begins Src.beginsK at h
  simp only [Bool.or_eq_true, beq_iff_eq, List.any_eq_true] at h
  rcases h with (((h | h) | (h | h)) | (h | h)) | ⟨t, ht, h⟩
  · exact g.moreK hn (by omega)
  · exact g.moreK hn (by omega)
  · exact g.moreK hn (by omega)
  · exact g.moreK hn (by omega)
  · exact g.more hn (by simp) h
  · exact g.more hn (by simp) h
  · exact g.more hn (ho t ht) h

theorem rowL_fin {mark : List UInt8} (hm : mark ≠ []) {read : Nat → Out Pb} (hr : ∀ k, k < S.ts.length → Fin S 1 k (read k)) : ∀ (f : Nat) (acc : List Pb) (n : Nat), n < S.ts.length → S.ts.length < f + n + 1 → Fin S 0 n (rowL S mark read f acc n) := by
  intro f
  induction f with
  | zero => intro acc n hn hf; omega
  | succ f ih =>
    intro acc n hn hf
    unfold rowL
    refine fin_if (fun h => ?_) (fun _ => fin_ok (Nat.le_refl _) hn)
    have h1 := g.more hn hm h
    exact (fin_bind (hr _ h1) (c := 1) (b := 0) (by omega) (fun x m hm hl => ih _ m hl (by omega))).at (by omega)
theorem rowO_fin {F : Nat} (hF : S.ts.length ≤ F) {mark : List UInt8} (hm : mark ≠ []) {read : Nat → Out Pb} (hr : ∀ k, k < S.ts.length → Fin S 1 k (read k)) {n : Nat} (hn : n < S.ts.length) : Fin S 1 n (rowO S F mark read n) := by
  unfold rowO
  exact fin_bind (hr n hn) (by omega) (fun x m hm2 hl => rowL_fin g hm hr _ _ m hl (by omega))

theorem declares_more {a n : Nat} (hn : n < S.ts.length) (h : declares S a n = true) : n + 1 < S.ts.length := by
  unfold declares at h
  cases h1 : (S.is n [115, 105, 103, 110, 97, 116, 117, 114, 101] || S.is n [102, 117, 110, 99, 116, 111, 114])
  · rw [h1] at h
    cases h2 : S.is n [115, 116, 114, 117, 99, 116, 117, 114, 101]
    · rw [h2] at h
      simp only [cond_false, Bool.or_eq_true] at h
      rcases h with ((h | h) | (h | h)) | (h | h) <;> exact g.more hn (by simp) h
    · exact g.more hn (by simp) h2
  · rcases (Bool.or_eq_true _ _).mp h1 with h | h <;> exact g.more hn (by simp) h

section
variable {F : Nat} (hF : S.ts.length ≤ F) {rec : Nt → Nat → Nat → Out Pb} {d : Nat} (hrec : ∀ nt k, k < S.ts.length → S.may nt k → Fin S 1 k (rec nt d k))
include hF hrec
theorem atomicTyO_fin {n : Nat} (hn : n < S.ts.length) : Fin S 1 n (atomicTyO S F rec d n) := by
  unfold atomicTyO
  refine fin_if (fun h => fin_ok (by omega) (g.moreK hn (by have := beq_iff_eq.1 h; omega))) (fun _ => fin_if (fun h => ?_) (fun _ => ?_))
  · have h1 := g.more hn (by simp) h
    refine (fin_bind (rowO_fin g hF (by simp) (fun k hk => hrec .ty k hk trivial) h1) (c := 0) (b := 0) (by omega) (fun l m hm hl => ?_)).at (by omega)
    refine (fin_bind (need_fin g (by simp) hl) (b := 0) (by omega) (fun u m2 hm2 hl2 => ?_))
    unfold pick1
    split
    · exact fin_ok (by omega) hl2
    · exact fin_bind (typePath_fin g hl2) (b := 0) (by omega) (fun p m3 hm3 hl3 => fin_ok (by omega) hl3)
  · exact fin_bind (typePath_fin g hn) (b := 0) (by omega) (fun p m3 hm3 hl3 => fin_ok (by omega) hl3)
theorem appliedL_fin (n : Nat) : ∀ (f : Nat) (b : Pb) (m : Nat), m < S.ts.length → S.ts.length < f + m + 1 → Fin S 0 m (appliedL S n f b m) := by
  have _ := hF
  have _ := hrec
  intro f
  induction f with
  | zero => intro b m hn hf; omega
  | succ f ih =>
    intro b m hn hf
    unfold appliedL
    refine fin_if (fun h => ?_) (fun _ => fin_ok (Nat.le_refl _) hn)
    exact fin_bind (typePath_fin g hn) (b := 0) (by omega) (fun p m1 hm hl => ih _ m1 hl (by omega))
theorem appliedO_fin {n : Nat} (hn : n < S.ts.length) : Fin S 1 n (appliedO S F rec d n) := by
  unfold appliedO
  exact fin_bind (atomicTyO_fin g hF hrec hn) (b := 0) (by omega) (fun b m hm hl => appliedL_fin g hF hrec n _ _ m hl (by omega))
theorem productO_fin {n : Nat} (hn : n < S.ts.length) : Fin S 1 n (productO S F rec d n) := by
  unfold productO
  exact fin_bind (rowO_fin g hF (by simp) (fun k hk => appliedO_fin g hF hrec hk) hn) (b := 0) (by omega) (fun l m hm hl => fin_ok (by omega) hl)
theorem tyO_fin {n : Nat} (hn : n < S.ts.length) : Fin S 1 n (tyO S F rec d n) := by
  unfold tyO
  refine fin_bind (productO_fin g hF hrec hn) (b := 0) (by omega) (fun b m hm hl => fin_if (fun h => ?_) (fun _ => fin_ok (by omega) hl))
  exact (fin_bind (hrec .ty _ (g.more hl (by simp) h) trivial) (b := 0) (c := 0) (by omega) (fun c m2 hm2 hl2 => fin_ok (by omega) hl2)).at (by omega)
omit hrec in
theorem tupleO_fin (fr : Nat) {member : Nat → Out Pb} (hm : ∀ k, k < S.ts.length → Fin S 1 k (member k)) {n : Nat} (hn : n < S.ts.length) : Fin S 1 n (tupleO S F fr member n) := by
  unfold tupleO
  refine fin_if (fun h => fin_ok (by omega) (g.more hn (by simp) h)) (fun _ => ?_)
  refine fin_bind (rowO_fin g hF (by simp) hm hn) (b := 0) (by omega) (fun l m hm hl => ?_)
  exact fin_bind (need_fin g (by simp) hl) (b := 0) (by omega) (fun u m2 hm2 hl2 => fin_ok (by omega) hl2)
omit hrec in
theorem plainO_fin (named : Int) {member : Nat → Out Pb} (hm : ∀ k, k < S.ts.length → Fin S 1 k (member k)) {n : Nat} (hn : n < S.ts.length) : Fin S 1 n (plainO S F named member n) := by
  unfold plainO
  refine fin_if (fun h => fin_ok (by omega) (g.moreK hn (by have := beq_iff_eq.1 h; omega))) (fun _ => fin_if (fun h => fin_ok (by omega) (g.moreK hn (by have := beq_iff_eq.1 h; omega))) (fun _ => fin_if (fun h => ?_) (fun _ => ?_)))
  · exact (tupleO_fin g hF n hm (g.more hn (by simp) h)).at (by omega)
  · exact fin_bind (value_fin g hn) (b := 0) (by omega) (fun p m3 hm3 hl3 => fin_ok (by omega) hl3)
theorem atomicPatO_fin {n : Nat} (hn : n < S.ts.length) : Fin S 1 n (atomicPatO S F rec d n) := by
  unfold atomicPatO
  refine fin_if (fun h => fin_ok (by omega) (g.more hn (by simp) h)) (fun _ => fin_if (fun h => ?_) (fun _ => plainO_fin g hF 39 (fun k hk => hrec .pat k hk trivial) hn))
  exact fin_bind (path_fin g (by decide) hn) (b := 0) (by omega) (fun p m3 hm3 hl3 => fin_ok (by omega) hl3)
theorem patO_fin {n : Nat} (hn : n < S.ts.length) : Fin S 1 n (patO S F rec d n) := by
  unfold patO
  refine fin_if (fun h => ?_) (fun _ => fin_if (fun h => ?_) (fun _ => atomicPatO_fin g hF hrec hn))
  · simp only [Bool.and_eq_true, beq_iff_eq] at h
    have h1 := g.moreK hn (by omega)
    have h2 := g.more h1 (by simp) h.2
    exact (fin_bind (hrec .pat _ h2 trivial) (b := 0) (c := 0) (by omega) (fun c m2 hm2 hl2 => fin_ok (by omega) hl2)).at (by omega)
  · refine fin_bind (path_fin g (by decide) hn) (b := 0) (by omega) (fun p m hm hl => fin_if (fun _ => ?_) (fun _ => fin_ok (by omega) hl))
    exact fin_bind (atomicPatO_fin g hF hrec hl) (b := 0) (by omega) (fun p m3 hm3 hl3 => fin_ok (by omega) hl3)
theorem decsL_fin (a : Nat) : ∀ (f : Nat) (acc : List Pb) (n : Nat), n < S.ts.length → S.ts.length < f + n + 1 → Fin S 0 n (decsL S rec d a f acc n) := by
  have _ := hF
  intro f
  induction f with
  | zero => intro acc n hn hf; omega
  | succ f ih =>
    intro acc n hn hf
    unfold decsL
    refine fin_if (fun h => ?_) (fun _ => fin_if (fun h => ?_) (fun _ => fin_ok (Nat.le_refl _) hn))
    · exact (ih acc (n + 1) (g.more hn (by simp) h) (by omega)).at (by omega)
    · exact fin_bind (hrec (.dec a) n hn h) (b := 0) (by omega) (fun x m hm hl => ih _ m hl (by omega))
theorem decsO_fin (a : Nat) {n : Nat} (hn : n < S.ts.length) : Fin S 0 n (decsO S F rec d a n) := decsL_fin g hF hrec a _ _ n hn (by omega)
theorem withinO_fin (a : Nat) {n : Nat} (hn : n < S.ts.length) : Fin S 0 n (withinO S F rec d a n) := by
  unfold withinO
  exact fin_bind (decsO_fin g hF hrec a hn) (b := 0) (by omega) (fun l m hm hl => fin_ok (by omega) hl)
theorem atomO_fin {n : Nat} (hn : n < S.ts.length) : Fin S 1 n (atomO S F rec d n) := by
  unfold atomO
  refine fin_if (fun h => ?_) (fun _ => fin_if (fun h => ?_) (fun _ => plainO_fin g hF 28 (fun k hk => hrec .exp k hk trivial) hn))
  · exact fin_bind (path_fin g (by decide) hn) (b := 0) (by omega) (fun p m hm hl => fin_if (fun _ => fin_ok (by omega) hl) (fun _ => fin_ok (by omega) hl))
  · have h1 := g.more hn (by simp) h
    refine (fin_bind (withinO_fin g hF hrec 0 h1) (b := 0) (c := 0) (by omega) (fun ds m hm hl => ?_)).at (by omega)
    refine fin_bind (need_fin g (by simp) hl) (b := 0) (by omega) (fun u m2 hm2 hl2 => ?_)
    refine fin_bind (hrec .exp _ hl2 trivial) (b := 0) (by omega) (fun e m3 hm3 hl3 => ?_)
    exact fin_bind (need_fin g (by simp) hl3) (b := 0) (by omega) (fun u m4 hm4 hl4 => fin_ok (by omega) hl4)
theorem callL_fin : ∀ (f : Nat) (acc : List Pb) (n : Nat), n < S.ts.length → S.ts.length < f + n + 1 → Fin S 0 n (callL S F rec d f acc n) := by
  intro f
  induction f with
  | zero => intro acc n hn hf; omega
  | succ f ih =>
    intro acc n hn hf
    unfold callL
    refine fin_if (fun h => ?_) (fun _ => fin_ok (Nat.le_refl _) hn)
    exact fin_bind (atomO_fin g hF hrec hn) (b := 0) (by omega) (fun x m hm hl => ih _ m hl (by omega))
theorem callO_fin {n : Nat} (hn : n < S.ts.length) : Fin S 1 n (callO S F rec d n) := by
  unfold callO
  refine fin_bind (atomO_fin g hF hrec hn) (b := 0) (by omega) (fun b m hm hl => ?_)
  exact fin_bind (callL_fin g hF hrec _ _ m hl (by omega)) (b := 0) (by omega) (fun l m2 hm2 hl2 => fin_ok (by omega) hl2)
theorem infixL_fin : ∀ (f : Nat) (sg : List Nat) (acc : List Pb) (n : Nat), n < S.ts.length → S.ts.length < f + n + 1 → Fin S 0 n (infixL S F rec d f sg acc n) := by
  intro f
  induction f with
  | zero => intro sg acc n hn hf; omega
  | succ f ih =>
    intro sg acc n hn hf
    unfold infixL
    refine fin_if (fun h => ?_) (fun _ => fin_ok (Nat.le_refl _) hn)
    refine fin_bind (take_fin g (by decide) hn) (b := 0) (by omega) (fun x m hm hl => ?_)
    exact fin_bind (callO_fin g hF hrec hl) (b := 0) (by omega) (fun x m2 hm2 hl2 => ih _ _ m2 hl2 (by omega))
theorem infixO_fin {n : Nat} (hn : n < S.ts.length) : Fin S 1 n (infixO S F rec d n) := by
  unfold infixO
  refine fin_bind (callO_fin g hF hrec hn) (b := 0) (by omega) (fun b m hm hl => ?_)
  exact fin_bind (infixL_fin g hF hrec _ _ _ m hl (by omega)) (b := 0) (by omega) (fun l m2 hm2 hl2 => fin_ok (by omega) hl2)
theorem clauseO_fin (k : Int) (fr : Nat) {n : Nat} (hn : n < S.ts.length) : Fin S 1 n (clauseO S rec d k fr n) := by
  have _ := hF
  unfold clauseO
  refine fin_bind (hrec .pat _ hn trivial) (b := 0) (by omega) (fun p m hm hl => ?_)
  refine fin_bind (need_fin g (by simp) hl) (b := 0) (by omega) (fun u m2 hm2 hl2 => ?_)
  exact fin_bind (hrec .exp _ hl2 trivial) (b := 0) (by omega) (fun e m3 hm3 hl3 => fin_ok (by omega) hl3)
theorem armO_fin {n : Nat} (hn : n < S.ts.length) : Fin S 1 n (armO S rec d n) := clauseO_fin g hF hrec 33 n hn
theorem expO_fin {n : Nat} (hn : n < S.ts.length) : Fin S 1 n (expO S F rec d n) := by
  unfold expO
  refine fin_if (fun h => ?_) (fun _ => fin_if (fun h => ?_) (fun _ => fin_if (fun h => ?_) (fun _ => infixO_fin g hF hrec hn)))
  · have h1 := g.more hn (by simp) h
    refine (fin_bind (hrec .exp _ h1 trivial) (b := 0) (c := 0) (by omega) (fun a m hm hl => ?_)).at (by omega)
    refine fin_bind (need_fin g (by simp) hl) (b := 0) (by omega) (fun u m2 hm2 hl2 => ?_)
    refine fin_bind (hrec .exp _ hl2 trivial) (b := 0) (by omega) (fun a m3 hm3 hl3 => ?_)
    refine fin_bind (need_fin g (by simp) hl3) (b := 0) (by omega) (fun u m4 hm4 hl4 => ?_)
    exact fin_bind (hrec .exp _ hl4 trivial) (b := 0) (by omega) (fun a m5 hm5 hl5 => fin_ok (by omega) hl5)
  · have h1 := g.more hn (by simp) h
    refine (fin_bind (hrec .exp _ h1 trivial) (b := 0) (c := 0) (by omega) (fun a m hm hl => ?_)).at (by omega)
    refine fin_bind (need_fin g (by simp) hl) (b := 0) (by omega) (fun u m2 hm2 hl2 => ?_)
    exact fin_bind (rowO_fin g hF (by simp) (fun k hk => armO_fin g hF hrec hk) hl2) (b := 0) (by omega) (fun a m3 hm3 hl3 => fin_ok (by omega) hl3)
  · exact (clauseO_fin g hF hrec 34 n (g.more hn (by simp) h)).at (by omega)
omit hF hrec in
theorem varsL_fin : ∀ (f : Nat) (n : Nat), n < S.ts.length → S.ts.length < f + n + 1 → Fin S 0 n (varsL S f n) := by
  intro f
  induction f with
  | zero => intro n hn hf; omega
  | succ f ih =>
    intro n hn hf
    unfold varsL
    refine fin_if (fun h => ?_) (fun _ => fin_ok (Nat.le_refl _) hn)
    exact (fin_bind (take_fin g (by decide) (g.more hn (by simp) h)) (b := 0) (c := 0) (by omega) (fun x m hm hl => ih m hl (by omega))).at (by omega)
omit hrec in
theorem typeNameO_fin {n : Nat} (hn : n < S.ts.length) : Fin S 1 n (typeNameO S F n) := by
  unfold typeNameO
  refine fin_if (fun h => ?_) (fun _ => fin_if (fun h => ?_) (fun _ => take_fin g (by decide) hn))
  · exact (take_fin g (by decide) (g.moreK hn (by have := beq_iff_eq.1 h; omega))).at (by omega)
  · refine (fin_bind (take_fin g (by decide) (g.more hn (by simp) h)) (b := 0) (c := 0) (by omega) (fun x m hm hl => ?_)).at (by omega)
    refine fin_bind (varsL_fin g _ m hl (by omega)) (b := 0) (by omega) (fun u m2 hm2 hl2 => ?_)
    refine fin_bind (need_fin g (by simp) hl2) (b := 0) (by omega) (fun u m3 hm3 hl3 => ?_)
    exact (take_fin g (by decide) hl3).le (by omega)
theorem conO_fin {n : Nat} (hn : n < S.ts.length) : Fin S 1 n (conO S rec d n) := by
  have _ := hF
  unfold conO
  refine fin_bind (take_fin g (by decide) hn) (b := 0) (by omega) (fun x m hm hl => fin_if (fun h => ?_) (fun _ => fin_ok (by omega) hl))
  exact (fin_bind (hrec .ty _ (g.more hl (by simp) h) trivial) (b := 0) (c := 0) (by omega) (fun c m2 hm2 hl2 => fin_ok (by omega) hl2)).at (by omega)
theorem dbindO_fin {n : Nat} (hn : n < S.ts.length) : Fin S 1 n (dbindO S F rec d n) := by
  unfold dbindO
  refine fin_bind (typeNameO_fin g hF hn) (b := 0) (by omega) (fun x m hm hl => ?_)
  refine fin_bind (need_fin g (by simp) hl) (b := 0) (by omega) (fun u m2 hm2 hl2 => ?_)
  exact fin_bind (rowO_fin g hF (by simp) (fun k hk => conO_fin g hF hrec hk) hl2) (b := 0) (by omega) (fun a m3 hm3 hl3 => fin_ok (by omega) hl3)
theorem datatypesO_fin (fr : Nat) {n : Nat} (hn : n < S.ts.length) : Fin S 1 n (datatypesO S F rec d fr n) := by
  unfold datatypesO
  exact fin_bind (rowO_fin g hF (by simp) (fun k hk => dbindO_fin g hF hrec hk) hn) (b := 0) (by omega) (fun a m3 hm3 hl3 => fin_ok (by omega) hl3)
theorem specO_fin {n : Nat} (hn : n < S.ts.length) : Fin S 1 n (specO S F rec d n) := by
  unfold specO
  refine fin_if (fun h => ?_) (fun _ => fin_if (fun h => ?_) (fun _ => fin_if (fun h => ?_) (fun _ => fin_if (fun h => ?_) (fun _ => ?_))))
  · refine (fin_bind (value_fin g (g.more hn (by simp) h)) (b := 0) (c := 0) (by omega) (fun x m hm hl => ?_)).at (by omega)
    refine fin_bind (need_fin g (by simp) hl) (b := 0) (by omega) (fun u m2 hm2 hl2 => ?_)
    exact fin_bind (hrec .ty _ hl2 trivial) (b := 0) (by omega) (fun a m5 hm5 hl5 => fin_ok (by omega) hl5)
  · refine (fin_bind (typeNameO_fin g hF (g.more hn (by simp) h)) (b := 0) (c := 0) (by omega) (fun x m hm hl => fin_if (fun h => ?_) (fun _ => fin_ok (by omega) hl))).at (by omega)
    exact (fin_bind (hrec .ty _ (g.more hl (by simp) h) trivial) (b := 0) (c := 0) (by omega) (fun c m2 hm2 hl2 => fin_ok (by omega) hl2)).at (by omega)
  · exact (datatypesO_fin g hF hrec n (g.more hn (by simp) h)).at (by omega)
  · refine (fin_bind (take_fin g (by decide) (g.more hn (by simp) h)) (b := 0) (c := 0) (by omega) (fun x m hm hl => ?_)).at (by omega)
    refine fin_bind (need_fin g (by simp) hl) (b := 0) (by omega) (fun u m2 hm2 hl2 => ?_)
    exact fin_bind (hrec .sig _ hl2 trivial) (b := 0) (by omega) (fun a m5 hm5 hl5 => fin_ok (by omega) hl5)
  · refine fin_bind (need_fin g (by simp) hn) (b := 0) (by omega) (fun u m2 hm2 hl2 => ?_)
    exact fin_bind (hrec .sig _ hl2 trivial) (b := 0) (by omega) (fun a m5 hm5 hl5 => fin_ok (by omega) hl5)
theorem specsL_fin : ∀ (f : Nat) (acc : List Pb) (n : Nat), n < S.ts.length → S.ts.length < f + n + 1 → Fin S 0 n (specsL S F rec d f acc n) := by
  intro f
  induction f with
  | zero => intro acc n hn hf; omega
  | succ f ih =>
    intro acc n hn hf
    unfold specsL
    refine fin_if (fun h => fin_ok (by omega) (g.more hn (by simp) h)) (fun _ => fin_if (fun h => ?_) (fun _ => ?_))
    · exact (ih acc (n + 1) (g.more hn (by simp) h) (by omega)).at (by omega)
    · exact fin_bind (specO_fin g hF hrec hn) (b := 0) (by omega) (fun x m hm hl => ih _ m hl (by omega))
theorem bareSigO_fin {n : Nat} (hn : n < S.ts.length) : Fin S 1 n (bareSigO S F rec d n) := by
  unfold bareSigO
  refine fin_if (fun h => ?_) (fun _ => ?_)
  · have h1 := g.more hn (by simp) h
    exact (fin_bind (specsL_fin g hF hrec _ _ (n + 1) h1 (by omega)) (b := 0) (c := 0) (by omega) (fun a m5 hm5 hl5 => fin_ok (by omega) hl5)).at (by omega)
  · exact fin_bind (take_fin g (by decide) hn) (b := 0) (by omega) (fun a m5 hm5 hl5 => fin_ok (by omega) hl5)
theorem whereL_fin (fr : Nat) : ∀ (f : Nat) (b : Pb) (n : Nat), n < S.ts.length → S.ts.length < f + n + 1 → Fin S 0 n (whereL S rec d fr f b n) := by
  have _ := hF
  intro f
  induction f with
  | zero => intro b n hn hf; omega
  | succ f ih =>
    intro b n hn hf
    unfold whereL
    refine fin_if (fun h => ?_) (fun _ => fin_ok (Nat.le_refl _) hn)
    have h1 := g.more hn (by simp) h
    refine (fin_bind (need_fin g (by simp) h1) (b := 0) (c := 0) (by omega) (fun u m hm hl => ?_)).at (by omega)
    refine fin_bind (typePath_fin g hl) (b := 0) (by omega) (fun p m2 hm2 hl2 => ?_)
    refine fin_bind (need_fin g (by simp) hl2) (b := 0) (by omega) (fun u m3 hm3 hl3 => ?_)
    exact fin_bind (hrec .ty _ hl3 trivial) (b := 0) (by omega) (fun c m4 hm4 hl4 => ih _ m4 hl4 (by omega))
theorem sigO_fin {n : Nat} (hn : n < S.ts.length) : Fin S 1 n (sigO S F rec d n) := by
  unfold sigO
  exact fin_bind (bareSigO_fin g hF hrec hn) (b := 0) (by omega) (fun b m hm hl => whereL_fin g hF hrec n _ _ m hl (by omega))
theorem bareStrO_fin {n : Nat} (hn : n < S.ts.length) : Fin S 1 n (bareStrO S F rec d n) := by
  unfold bareStrO
  refine fin_if (fun h => ?_) (fun _ => fin_if (fun h => ?_) (fun _ => ?_))
  · refine (fin_bind (decsO_fin g hF hrec 1 (g.more hn (by simp) h)) (b := 0) (c := 0) (by omega) (fun l m hm hl => ?_)).at (by omega)
    exact fin_bind (need_fin g (by simp) hl) (b := 0) (by omega) (fun u m2 hm2 hl2 => fin_ok (by omega) hl2)
  · simp only [Bool.and_eq_true, beq_iff_eq] at h
    have h1 := g.moreK hn (by omega)
    have h2 := g.more h1 (by simp) h.2
    refine (fin_bind (hrec .str _ h2 trivial) (b := 0) (c := 0) (by omega) (fun c m2 hm2 hl2 => ?_)).at (by omega)
    exact fin_bind (need_fin g (by simp) hl2) (b := 0) (by omega) (fun u m3 hm3 hl3 => fin_ok (by omega) hl3)
  · exact fin_bind (path_fin g (by decide) hn) (b := 0) (by omega) (fun p m hm hl => fin_ok (by omega) hl)
theorem sealL_fin (fr : Nat) : ∀ (f : Nat) (b : Pb) (n : Nat), n < S.ts.length → S.ts.length < f + n + 1 → Fin S 0 n (sealL S rec d fr f b n) := by
  have _ := hF
  intro f
  induction f with
  | zero => intro b n hn hf; omega
  | succ f ih =>
    intro b n hn hf
    unfold sealL
    refine fin_if (fun _ => fin_ok (Nat.le_refl _) hn) (fun h => ?_)
    have h2 := (colon_fin g hn).2.2.1 (by simpa using h)
    have h1 := (colon_fin g hn).1
    rw [h2] at h1
    exact (fin_bind (hrec .sig _ h1 trivial) (b := 0) (c := 0) (by omega) (fun c m4 hm4 hl4 => ih _ m4 hl4 (by omega))).at (by omega)
theorem strO_fin {n : Nat} (hn : n < S.ts.length) : Fin S 1 n (strO S F rec d n) := by
  unfold strO
  exact fin_bind (bareStrO_fin g hF hrec hn) (b := 0) (by omega) (fun b m hm hl => sealL_fin g hF hrec n _ _ m hl (by omega))
theorem bodyO_fin {n : Nat} (hn : n < S.ts.length) : Fin S 1 n (bodyO S rec d n) := by
  have _ := hF
  unfold bodyO
  refine fin_bind (a := 0) (b := 1) (fin_if (fun _ => fin_ok (Nat.le_refl _) hn) (fun h => ?_)) (by omega) (fun l m hm hl => ?_)
  · have h2 := (colon_fin g hn).2.2.1 (by simpa using h)
    have h1 := (colon_fin g hn).1
    rw [h2] at h1
    exact (fin_bind (hrec .sig _ h1 trivial) (b := 0) (c := 0) (by omega) (fun c m4 hm4 hl4 => fin_ok (by omega) hl4)).at (by omega)
  · refine fin_bind (need_fin g (by simp) hl) (b := 0) (by omega) (fun u m2 hm2 hl2 => ?_)
    exact fin_bind (hrec .str _ hl2 trivial) (b := 0) (by omega) (fun c m4 hm4 hl4 => fin_ok (by omega) hl4)
theorem structureO_fin (fr : Nat) {n : Nat} (hn : n < S.ts.length) : Fin S 1 n (structureO S rec d fr n) := by
  unfold structureO
  refine fin_bind (take_fin g (by decide) hn) (b := 0) (by omega) (fun x m hm hl => ?_)
  exact fin_bind (bodyO_fin g hF hrec hl) (b := 0) (by omega) (fun c m4 hm4 hl4 => fin_ok (by omega) hl4)
theorem functorO_fin (fr : Nat) {n : Nat} (hn : n < S.ts.length) : Fin S 1 n (functorO S rec d fr n) := by
  unfold functorO
  refine fin_bind (take_fin g (by decide) hn) (b := 0) (by omega) (fun x m hm hl => ?_)
  refine fin_bind (need_fin g (by simp) hl) (b := 0) (by omega) (fun u m2 hm2 hl2 => ?_)
  refine fin_bind (take_fin g (by decide) hl2) (b := 0) (by omega) (fun x m3 hm3 hl3 => ?_)
  refine fin_bind (need_fin g (by simp) hl3) (b := 0) (by omega) (fun u m4 hm4 hl4 => ?_)
  refine fin_bind (hrec .sig _ hl4 trivial) (b := 0) (by omega) (fun c m5 hm5 hl5 => ?_)
  refine fin_bind (need_fin g (by simp) hl5) (b := 0) (by omega) (fun u m6 hm6 hl6 => ?_)
  exact fin_bind (bodyO_fin g hF hrec hl6) (b := 0) (by omega) (fun c m7 hm7 hl7 => fin_ok (by omega) hl7)
theorem funL_fin : ∀ (f : Nat) (acc : List Pb) (n : Nat), n < S.ts.length → S.ts.length < f + n + 1 → Fin S 0 n (funL S F rec d f acc n) := by
  intro f
  induction f with
  | zero => intro acc n hn hf; omega
  | succ f ih =>
    intro acc n hn hf
    unfold funL
    refine fin_if (fun h => ?_) (fun _ => fin_ok (Nat.le_refl _) hn)
    exact fin_bind (atomicPatO_fin g hF hrec hn) (b := 0) (by omega) (fun x m hm hl => ih _ m hl (by omega))
theorem functionO_fin {n : Nat} (hn : n < S.ts.length) : Fin S 1 n (functionO S F rec d n) := by
  unfold functionO
  refine fin_bind (value_fin g hn) (b := 0) (by omega) (fun x m hm hl => ?_)
  refine fin_bind (atomicPatO_fin g hF hrec hl) (b := 0) (by omega) (fun x m2 hm2 hl2 => ?_)
  refine fin_bind (funL_fin g hF hrec _ _ m2 hl2 (by omega)) (b := 0) (by omega) (fun x m3 hm3 hl3 => ?_)
  refine fin_bind (need_fin g (by simp) hl3) (b := 0) (by omega) (fun u m4 hm4 hl4 => ?_)
  exact fin_bind (hrec .exp _ hl4 trivial) (b := 0) (by omega) (fun c m5 hm5 hl5 => fin_ok (by omega) hl5)
theorem localO_fin (fr a : Nat) {n : Nat} (hn : n < S.ts.length) : Fin S 1 n (localO S F rec d fr a n) := by
  unfold localO
  refine fin_bind (withinO_fin g hF hrec a hn) (b := 1) (by omega) (fun x m hm hl => ?_)
  refine fin_bind (need_fin g (by simp) hl) (b := 0) (by omega) (fun u m2 hm2 hl2 => ?_)
  refine fin_bind (withinO_fin g hF hrec a hl2) (b := 0) (by omega) (fun x m3 hm3 hl3 => ?_)
  exact fin_bind (need_fin g (by simp) hl3) (b := 0) (by omega) (fun u m4 hm4 hl4 => fin_ok (by omega) hl4)
theorem decB_fin (a : Nat) {n : Nat} (hn1 : n + 1 < S.ts.length) : Fin S 1 n (decB S F rec d a n) := by
  unfold decB
  refine fin_if (fun h => ?_) (fun _ => fin_if (fun h => ?_) (fun _ => fin_if (fun h => ?_) (fun _ => fin_if (fun h => ?_) (fun _ => fin_if (fun h => ?_) (fun _ => fin_if (fun h => ?_) (fun _ => fin_if (fun h => ?_) (fun _ => fin_if (fun h => ?_) (fun _ => ?_))))))))
  · refine (fin_bind (hrec .pat _ hn1 trivial) (b := 0) (c := 0) (by omega) (fun x m hm hl => ?_)).at (by omega)
    refine fin_bind (need_fin g (by simp) hl) (b := 0) (by omega) (fun u m2 hm2 hl2 => ?_)
    exact fin_bind (hrec .exp _ hl2 trivial) (b := 0) (by omega) (fun c m5 hm5 hl5 => fin_ok (by omega) hl5)
  · exact (fin_bind (rowO_fin g hF (by simp) (fun k hk => functionO_fin g hF hrec hk) hn1) (b := 0) (c := 0) (by omega) (fun a m3 hm3 hl3 => fin_ok (by omega) hl3)).at (by omega)
  · refine (fin_bind (typeNameO_fin g hF hn1) (b := 0) (c := 0) (by omega) (fun x m hm hl => ?_)).at (by omega)
    refine fin_bind (need_fin g (by simp) hl) (b := 0) (by omega) (fun u m2 hm2 hl2 => ?_)
    exact fin_bind (hrec .ty _ hl2 trivial) (b := 0) (by omega) (fun c m5 hm5 hl5 => fin_ok (by omega) hl5)
  · exact (datatypesO_fin g hF hrec n hn1).at (by omega)
  · exact (structureO_fin g hF hrec n hn1).at (by omega)
  · refine (fin_bind (take_fin g (by decide) hn1) (b := 0) (c := 0) (by omega) (fun x m hm hl => ?_)).at (by omega)
    refine fin_bind (need_fin g (by simp) hl) (b := 0) (by omega) (fun u m2 hm2 hl2 => ?_)
    exact fin_bind (hrec .sig _ hl2 trivial) (b := 0) (by omega) (fun c m5 hm5 hl5 => fin_ok (by omega) hl5)
  · exact (functorO_fin g hF hrec n hn1).at (by omega)
  · exact (fin_bind (path_fin g (by decide) hn1) (b := 0) (c := 0) (by omega) (fun c m5 hm5 hl5 => fin_ok (by omega) hl5)).at (by omega)
  · exact (localO_fin g hF hrec n a hn1).at (by omega)
theorem decO_fin (a : Nat) {n : Nat} (hn1 : n + 1 < S.ts.length) : Fin S 1 n (decO S F rec d a n) := by
  unfold decO
  exact fin_if (fun _ => decB_fin g hF hrec a hn1) (fun _ => trivial)
end
theorem parts_fin : ∀ (f : Nat) (nt : Nt) (d n : Nat), d ≤ 256 → n < S.ts.length → S.may nt n → S.ts.length + 257 ≤ f + d → Fin S 1 n (parts S f nt d n) := by
  intro f
  induction f with
  | zero => intro nt d n hd hn _ hf; omega
  | succ f ih =>
    intro nt d n hd hn hmay hf
    unfold parts
    refine fin_if (fun _ => trivial) (fun h => ?_)
    have h256 : d ≠ 256 := by simpa using h
    have hrec : ∀ nt k, k < S.ts.length → S.may nt k → Fin S 1 k (parts S f nt (d + 1) k) := fun nt k hk hm => ih nt (d + 1) k (by omega) hk hm (by omega)
    have hF : S.ts.length ≤ f := by omega
    cases nt with
    | exp => exact expO_fin g hF hrec hn
    | pat => exact patO_fin g hF hrec hn
    | ty => exact tyO_fin g hF hrec hn
    | sig => exact sigO_fin g hF hrec hn
    | str => exact strO_fin g hF hrec hn
    | dec a => exact decO_fin g hF hrec a (declares_more g hn hmay)
theorem fileO_fin {F : Nat} (hF : S.ts.length + 257 ≤ F) {n : Nat} (hn : n < S.ts.length) : Fin S 0 n (fileO S F n) := by
  unfold fileO
  exact fin_bind (decsO_fin g (F := F) (by omega) (rec := parts S F) (d := 0) (fun nt k hk hm => parts_fin g F nt 0 k (by omega) hk hm (by omega)) 2 hn) (b := 0) (by omega) (fun l m hm hl => fin_ok (by omega) hl)
end
end Go.Proofs.YtkjgkchdkeggoaaGreatDoor

namespace Go.Proofs.YtkjgkchdkeggoaaGreatDoor
open Go.RowKit
set_option maxRecDepth 20000
set_option linter.unusedVariables false
set_option linter.unusedSimpArgs false

theorem begins1 (S : Src) (n d : Nat) (t : ByteArray) (w : World) (h : Rd w S n d) :
    Calls Tryz.prog 71 #[.pointer (some ⟨S.g, 0, none⟩), .slice (some ⟨w.heap.size, 0, none⟩) 1 1] (w.alloc (.cells #[.string t] 9)) fun e w' => e = .returned (.bool (S.begins [t.data.toList] n)) ∧ Below w.heap.size w w' := by
  have hb : Below w.heap.size w (w.alloc (.cells #[.string t] 9)) := (Below.refl w.heap.size w).alloc (Nat.le_refl _) _
  have hat : TxtCells (w.alloc (.cells #[.string t] 9)) w.heap.size [t] := fun i hi => by
    obtain rfl : i = 0 := by simpa using hi
    exact Lib.cell_of_heap (heap_alloc_new w (.cells #[.string t] 9)) 0
  have := rbegins_any S n d [t] w.heap.size 1 _ (h.step hb) hat (by simp) (by simp) (by simp)
  refine this.mono fun e w' he => ⟨he.1, hb.trans (he.2.mono hb.size)⟩
theorem Rd.moved {w : World} {S : Src} {n d : Nat} (h : Rd w S n d) (m : Nat) (hm : m < S.ts.length) (x : Int) (hx : x = (m : Int)) : Rd (w.setCell ⟨S.g, 2, none⟩ (.int .i64 x)) S m d := by
  subst hx
  have hne : S.gw ≠ S.g := h.good.apart
  refine ⟨h.good, hm, ?_, by simpa using h.row, fun i hi => ?_, h.deep⟩
  · rw [heap_setCell_same w S.g 2 _ _ _ h.box]
    rfl
  · obtain ⟨t0, t1, t2⟩ := h.toks i hi
    have far : ∀ o, (w.setCell ⟨S.g, 2, none⟩ (.int .i64 (m : Int))).cell? ⟨S.gw, o, none⟩ = w.cell? ⟨S.gw, o, none⟩ := fun o => World.cell?_of_block (Below.heap_setCell _ _ _ _ hne)
    exact ⟨(far _).trans t0, (far _).trans t1, (far _).trans t2⟩
theorem St.moved {S : Src} {w1 W : World} {d n : Nat} {L : Live} (h : St S w1 d L W n) (m : Nat) (hm : m < S.ts.length) (x : Int) (hx : x = (m : Int)) : St S w1 d L (W.setCell ⟨S.g, 2, none⟩ (.int .i64 x)) m :=
  h.grow (h.rd.moved m hm x hx) (grown_set _ _ _)
theorem is_tx {S : Src} {n : Nat} {t : List UInt8} {b : Bool} (h : S.is n t = b) : ((S.tx n).toList == t) = b := by
  rw [← h]; unfold Src.is; rw [Lib.toList_data]
end Go.Proofs.YtkjgkchdkeggoaaGreatDoor

namespace Go.Proofs.YtkjgkchdkeggoaaGreatDoor
open Go.RowKit
set_option maxRecDepth 20000
set_option linter.unusedVariables false
set_option linter.unusedSimpArgs false

theorem Br.On.and {P Q : Nat → Prop} (b : Br) : b.On P → b.On Q → b.On fun q => P q ∧ Q q := by
  induction b using Br.ind with
  | hP hd ks ih =>
    intro hb hc
    rw [on_iff] at hb hc ⊢
    exact ⟨fun a h1 h2 => ⟨hb.1 a h1 h2, hc.1 a h1 h2⟩, fun a h1 h2 => ⟨hb.2.1 a h1 h2, hc.2.1 a h1 h2⟩, fun x hx => ih x hx (hb.2.2 x hx) (hc.2.2 x hx)⟩
theorem Br.On.all (b : Br) : b.On fun _ => True := by
  induction b using Br.ind with
  | hP hd ks ih =>
    rw [on_iff]
    exact ⟨fun _ _ _ => trivial, fun _ _ _ => trivial, fun x hx => ih x hx⟩
theorem on_below {W : World} {y : Br} (hl : y.Lies W) : y.On fun q => q ≠ W.heap.size := (Br.On.low y (Br.On.all y) hl).mono (fun q hq => by have := hq.2; omega) _
section
variable {S : Src} {w w1 W W' : World} {d n n' : Nat} {L : Live} {X : List (Nat × Obj)} {Ns : List (Value × List Nat)} {Ks : List (Value × List Br)}
/-- A node whose rows lie apart from a box. -/
theorem St.node_apart (h : St S w1 d L W n) {b : Nat} {y : Br} (hb : (b, y) ∈ L.B) (k m f t : Int) {np : Option Addr} {nn nc : Nat} {l : List Nat} {g kn kc : Nat} {ys : List Br}
    (hN : W.ownsRow w1.heap.size 3 1 (.slice np nn nc) l.length (l.map mkN)) (hK : W.ownsRow w1.heap.size 26 6 (.slice (some ⟨g, 0, none⟩) kn kc) ys.length (cellsK ys) ∧ Kids w1.heap.size (.slice (some ⟨g, 0, none⟩) kn kc) W ys)
    (hg : g ≠ b) (hys : ∀ z ∈ ys, z.On (fun q => q ≠ b)) :
    Br.Lies W (.mk ⟨k, m, f, t, np, nn, nc, l.map (fun x : Nat => (x : Int)), some ⟨g, 0, none⟩, kn, kc⟩ ys) ∧ Br.On (fun q => w1.heap.size ≤ q ∧ q ≠ b) (.mk ⟨k, m, f, t, np, nn, nc, l.map (fun x : Nat => (x : Int)), some ⟨g, 0, none⟩, kn, kc⟩ ys) := by
  have e1 : l.length = nn := by
    obtain ⟨p, c, hv⟩ := own_form hN
    injection hv with _ h2 _
    exact h2.symm
  have e2 : ys.length = kn := by
    obtain ⟨p, c, hv⟩ := own_form hK.1
    injection hv with _ h2 _
    exact h2.symm
  subst e1 e2
  have HL := node_lies (w0 := W) (w1 := W) k m f t hN hK.1 hK.2
  refine ⟨HL.1, Br.On.and _ HL.2 ?_⟩
  rw [on_iff]
  refine ⟨fun a ha hp => fun e => ?_, fun a ha hp => fun e => ?_, fun z hz => hys z hz⟩
  · simp only [Br.h] at hp
    subst hp
    have hbx := (h.b _ hb).1
    rcases hN.2 with ⟨hv, _⟩ | ⟨g', c', cur, hv, _, hh, _⟩
    · cases hv
    · injection hv with e3 _ _
      have e4 : a = ⟨g', 0, none⟩ := Option.some.inj e3
      subst e4
      simp only at e hbx
      rw [← e, hh] at hbx
      injection hbx with e5
      injection e5 with _ e6
      cases e6
  · simp only [Br.h] at hp
    have e4 : a = ⟨g, 0, none⟩ := (Option.some.inj hp).symm
    subst e4
    exact hg e
/-- A box is written over. -/
theorem St.rebox (h : St S w1 d L W n) {b : Nat} {y z : Br} (hb : (b, y) ∈ L.B) (hzl : z.Lies W) (hzo : z.On fun q => w1.heap.size ≤ q ∧ q ≠ b) : St S w1 d ⟨L.X, [(b, z)], [], []⟩ (sixC W b z.h) n := by
  obtain ⟨h1, h2, h3, h4⟩ := h.b _ hb
  obtain ⟨hsix, hgs⟩ := six_set h1 (.int .i64 z.h.k) (.int .i64 z.h.m) (.int .i64 z.h.f) (.int .i64 z.h.t) (.slice z.h.np z.h.nn z.h.nc) (.slice z.h.kp z.h.kn z.h.kc)
  have hlt := h.lt
  have hlw := h.lw
  simp only at h2
  refine ⟨h.rd.grow hgs (fun e => by have := Option.some.inj e; simp only at this; omega) (fun e => by have := Option.some.inj e; simp only at this; omega), grown_own h.gr hgs (fun q hq => by have := Option.some.inj hq; omega), hlt, hlw, fun p hp => ?_, fun p hp => ?_, fun p hp => (nomatch hp), fun p hp => (nomatch hp)⟩
  · obtain ⟨a1, a2, a3⟩ := h.x p hp
    exact ⟨(hgs.block _ (Array.getElem?_eq_some_iff.1 a1).1 (fun e => by have := Option.some.inj e; simp only at this; omega)).trans a1, a2, a3⟩
  · obtain rfl := List.mem_singleton.1 hp
    exact ⟨hsix, h2, Br.Lies.kept (P := fun q => w1.heap.size ≤ q ∧ q ≠ b) z hgs.size (fun q hq hl => hgs.block q hl (fun e => hq.2 (Option.some.inj e))) hzo hzl, hzo.mono (fun q hq => hq.1) _⟩
/-- What an append to the row of names leaves. -/
theorem St.appN (h : St S w1 d ⟨X, [], Ns, Ks⟩ W n) {v : Value} {l : List Nat} (hv : (v, l) ∈ Ns) {g c nl m : Nat} (hnl : l.length = nl) (hk : ∀ p ∈ Ks, ∀ y ∈ p.2, y.On fun q => some q ≠ v.ownBlock)
    (hown : W'.ownsRow w1.heap.size 3 1 (.slice (some ⟨g, 0, none⟩) (nl + 1) c) (nl + 1) (l.map mkN ++ [mkN m])) (hgrow : W.grownBy W' v.ownBlock) (hat : v.ownBlock = some g ∨ g = W.heap.size) :
    St S w1 d ⟨X, [], [(.slice (some ⟨g, 0, none⟩) (nl + 1) c, l ++ [m])], Ks⟩ W' n ∧ ∀ p ∈ Ks, ∀ y ∈ p.2, y.On fun q => some q ≠ (Value.slice (some ⟨g, 0, none⟩) (nl + 1) c).ownBlock := by
  have ho := h.ns _ hv
  have hbl : ∀ q, v.ownBlock = some q → w1.heap.size ≤ q ∧ q < W.heap.size := fun q hq => ownBlock_lt ho hq
  have hlt := h.lt
  have hlw := h.lw
  refine ⟨⟨h.rd.grow hgrow (fun e => by have := hbl _ e; omega) (fun e => by have := hbl _ e; omega), grown_own h.gr hgrow (fun q hq => (hbl q hq).1), hlt, hlw, fun p hp => ?_, fun p hp => (nomatch hp), fun p hp => ?_, fun p hp => ?_⟩, fun p hp y hy => ?_⟩
  · obtain ⟨h1, h2, h3⟩ := h.x p hp
    exact ⟨(hgrow.block _ (Array.getElem?_eq_some_iff.1 h1).1 (fun e => by have := hbl _ e.symm; omega)).trans h1, h2, h3⟩
  · obtain rfl := List.mem_singleton.1 hp
    have hl : (l ++ [m]).length = nl + 1 := by simp [hnl]
    simp only [hl]
    rw [List.map_append, List.map_cons, List.map_nil]
    exact hown
  · obtain ⟨h1, h2⟩ := h.ks p hp
    refine ⟨?_, fun y hy => ⟨Br.Lies.kept (P := fun q => some q ≠ v.ownBlock) y hgrow.size (fun q hq hlt => hgrow.block q hlt hq) (hk p hp y hy) (h2 y hy).1, (h2 y hy).2⟩⟩
    cases hq : v.ownBlock with
    | none => exact h1.kept hgrow (by rw [hq]; exact Classical.em _)
    | some q => exact h1.kept hgrow (Or.inr (fun e => own_ne ho h1 (by decide) hq (by rw [← hq]; first | exact e | exact e.symm)))
  · refine ((Br.On.low y (hk p hp y hy) ((h.ks p hp).2 y hy).1)).mono (fun q hq => fun e => ?_) _
    have e1 : q = g := by simpa [Value.ownBlock] using e
    rcases hat with h2 | h2
    · exact hq.1 (by rw [e1, h2])
    · have := hq.2; omega
/-- The walk's append to a row of names. -/
theorem wpList_appN {ops : Array Oper} {rest : List Oper} {o : Oper} {a : Act} {Q : Exit → Act → World → Prop} (hgd : o.guard = none) (s x : Operand)
    (ho : o.op = .call { callee := .builtin .append, args := #[s, x], argTypes := #[23, 23] }) (H : Hid (St S w1 d ⟨X, [], Ns, Ks⟩ W n)) (v : Value) (l : List Nat) (m : Nat) (hv : (v, l) ∈ Ns) (nl c : Nat) (hnl : l.length = nl) (hs : a.eval s = v)
    (ad : Addr) (hx : a.eval x = .slice (some ad) 1 c) (hnews : ∀ j u, ([mkN m] : List Value)[j]? = some u → W.cell? (ad.add j) = some u) (hk : Hid (∀ p ∈ Ks, ∀ y ∈ p.2, y.On fun q => some q ≠ v.ownBlock)) (hmax : nl + 1 ≤ 1000000000000)
    (h : ∀ g cap w', Hid (St S w1 d ⟨X, [], [(.slice (some ⟨g, 0, none⟩) (nl + 1) cap, l ++ [m])], Ks⟩ w' n) → Hid (∀ p ∈ Ks, ∀ y ∈ p.2, y.On fun q => some q ≠ (Value.slice (some ⟨g, 0, none⟩) (nl + 1) cap).ownBlock) → wpList Tryz.prog ops Q rest (a.put o.dst (.slice (some ⟨g, 0, none⟩) (nl + 1) cap)) w') : wpList Tryz.prog ops Q (o :: rest) a W := by
  obtain ⟨i0, hi0, hy0, hy1, hy2⟩ := info_parts info3
  have hown := H.out.ns _ hv
  simp only [hnl] at hown
  refine wpList_append_lies W hgd s x 23 ho w1.heap.size 3 i0 _ 1 8 Tryz.underlying23 hi0 hy0 hy1 hy2 rfl (by omega) v nl _ hs hown ad 1 c [mkN m] hx rfl hnews (fun u hu => by obtain rfl := List.mem_singleton.1 hu; rfl) (by omega) (by unfold maxLen; omega) (by omega) H.out.size _ rfl ?_
  intro g cap w' h1 h2 h3 h4
  obtain ⟨r1, r2⟩ := H.out.appN hv hnl hk.out h1 h2 h3
  exact h g cap w' (Lib.hid r1) (Lib.hid r2)
end
end Go.Proofs.YtkjgkchdkeggoaaGreatDoor
