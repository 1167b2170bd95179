/-
  The reader's part: one part more lies around what is read.
-/
import Derived.Test.YtkjgkchdkeggoaaGreatDoorBrn
namespace Go.Proofs.YtkjgkchdkeggoaaGreatDoor
open Go.RowKit
set_option maxRecDepth 20000
set_option linter.unusedVariables false
set_option linter.unusedSimpArgs false

theorem Rd.setDeep {w : World} {S : Src} {n d : Nat} (h : Rd w S n d) (e : Nat) (he : e ≤ 256) (x : Int) (hx : x = (e : Int)) : Rd (w.setCell ⟨S.g, 3, none⟩ (.int .i64 x)) S n e := by
  subst hx
  have hne : S.gw ≠ S.g := h.good.apart
  refine ⟨h.good, h.here, ?_, by simpa using h.row, fun i hi => ?_, he⟩
  · rw [heap_setCell_same w S.g 3 _ _ _ h.box]
    rfl
  · obtain ⟨t0, t1, t2⟩ := h.toks i hi
    have far : ∀ o, (w.setCell ⟨S.g, 3, none⟩ (.int .i64 (e : Int))).cell? ⟨S.gw, o, none⟩ = w.cell? ⟨S.gw, o, none⟩ := fun o => World.cell?_of_block (Below.heap_setCell _ _ _ _ hne)
    exact ⟨(far _).trans t0, (far _).trans t1, (far _).trans t2⟩
theorem own_set {w : World} {base E size n g c : Nat} {xs : List Value} (h : w.ownsRow base E size (.slice (some ⟨g, 0, none⟩) n c) n xs) (o : Nat) (u : Value) (ho : o < n * size) :
    (w.setCell ⟨g, o, none⟩ u).ownsRow base E size (.slice (some ⟨g, 0, none⟩) n c) n (xs.set o u) := by
  obtain ⟨hl, ⟨h0, _⟩ | ⟨g', c', cur, hv, hb, hh, hle, hm, hs, ht⟩⟩ := h
  · cases h0
  · simp only [Value.slice.injEq, Option.some.injEq, Addr.mk.injEq, and_true, true_and] at hv
    obtain ⟨rfl, rfl⟩ := hv
    refine ⟨by simpa using hl, .inr ⟨g, c, _, rfl, hb, heap_setCell_same w g o cur E u hh, hle, hm, ?_, ?_⟩⟩
    · simpa using hs
    · rw [← ht]
      simp [List.take_set]
/-- Six cells are written over. -/
theorem six_set {w : World} {g : Nat} {z0 z1 z2 z3 z4 z5 : Value} (h : w.heap[g]? = some (.cells #[z0, z1, z2, z3, z4, z5] 26 (0, 0))) (a0 a1 a2 a3 a4 a5 : Value) :
    ((((((w.setCell ⟨g, 0, none⟩ a0).setCell ⟨g, 1, none⟩ a1).setCell ⟨g, 2, none⟩ a2).setCell ⟨g, 3, none⟩ a3).setCell ⟨g, 4, none⟩ a4).setCell ⟨g, 5, none⟩ a5).heap[g]? = some (.cells #[a0, a1, a2, a3, a4, a5] 26 (0, 0)) ∧
    w.grownBy ((((((w.setCell ⟨g, 0, none⟩ a0).setCell ⟨g, 1, none⟩ a1).setCell ⟨g, 2, none⟩ a2).setCell ⟨g, 3, none⟩ a3).setCell ⟨g, 4, none⟩ a4).setCell ⟨g, 5, none⟩ a5) (some g) := by
  constructor
  · have h1 := heap_setCell_same w g 0 _ _ a0 h
    have h2 := heap_setCell_same _ g 1 _ _ a1 h1
    have h3 := heap_setCell_same _ g 2 _ _ a2 h2
    have h4 := heap_setCell_same _ g 3 _ _ a3 h3
    have h5 := heap_setCell_same _ g 4 _ _ a4 h4
    have h6 := heap_setCell_same _ g 5 _ _ a5 h5
    rw [h6]; rfl
  · exact grown_trans (grown_trans (grown_trans (grown_trans (grown_trans (grown_set g 0 a0) (grown_set g 1 a1)) (grown_set g 2 a2)) (grown_set g 3 a3)) (grown_set g 4 a4)) (grown_set g 5 a5)

set_option maxHeartbeats 4000000 in
theorem rpart_any (m : Nat) (cap : Array Value) (hcf : ∀ args w, Sem.run Tryz.prog (callFunc m args) w = .ok (.enter m args) w) (S : Src) (n d : Nat) (o : Out Pb) (w : World) (h : Rd w S n d)
    (hread : d < 256 → ∀ w', Rd w' S n (d + 1) → w.grownBy w' (some S.g) → o ≠ .dry → Calls Tryz.prog m (#[.int .i64 (n : Int)] ++ cap) w' (fun e w'' => Ends S (d + 1) w' o (RB w') e w''))
    (hdry : (bif d == 256 then Out.deep n else o) ≠ .dry) :
    Calls Tryz.prog 43 #[.pointer (some ⟨S.g, 0, none⟩), .func (.func m) #[] cap] w fun e w' => Ends S d w (bif d == 256 then Out.deep n else o) (RB w) e w' := by
  have hb1 : Below w.heap.size w (w.alloc (.cells #[.int .i64 0, .int .i64 0, .int .i64 0, .int .i64 0, .slice none 0 0, .slice none 0 0] 26)) := (Below.refl w.heap.size w).alloc (Nat.le_refl _) _
  have hrb := heap_alloc_new w (.cells #[.int .i64 0, .int .i64 0, .int .i64 0, .int .i64 0, .slice none 0 0, .slice none 0 0] 26)
  have hr1 := h.step hb1
  have hgl := h.lt
  have hgwl := h.row
  have hdeep := h.deep
  have c2 := hr1.c2
  have c3 := hr1.c3
  have f3 := hr1.free 3
  have HR1 := Lib.hid hr1
  have HB1 := Lib.hid hb1
  have HRB := Lib.hid hrb
  by_cases h256 : d = 256
  · have e1 : (bif d == 256 then Out.deep n else o) = .deep n := by simp [h256]
    rw [e1]
    have HP := Lib.hid (rplace_any S n d _ hr1)
    have h256' : ((d : Int) == 256) = true := by simp [h256]
    clear h hr1 hb1 hrb hread hdry e1
    generalize hdd : (d : Int) = di at *
    go_enter Tryz.func43, Tryz.ntmps43
    go_wp2_with fail
    refine HP.out.mono ?_
    rintro e w2 ⟨rfl, hb2⟩
    have HB2 := Lib.hid (HB1.out.trans (hb2.mono HB1.out.size))
    clear hb2
    go_wp2_with fail
    exact ⟨rfl, Or.inr ⟨_, rfl, rfl, grown_below HB2.out _⟩⟩
  · have e1 : (bif d == 256 then Out.deep n else o) = o := by rw [show (d == 256) = false from by simp [h256]]; rfl
    rw [e1] at hdry ⊢
    have hd1 : d + 1 ≤ 256 := by omega
    have h256' : ((d : Int) == 256) = false := by rw [beq_eq_false_iff_ne]; omega
    have hrs : Rd (w.setCell ⟨S.g, 3, none⟩ (.int .i64 ((d : Int) + 1))) S n (d + 1) := h.setDeep (d + 1) hd1 _ (by omega)
    have hr2 : Rd ((w.setCell ⟨S.g, 3, none⟩ (.int .i64 ((d : Int) + 1))).alloc (.cells #[.int .i64 0, .int .i64 0, .int .i64 0, .int .i64 0, .slice none 0 0, .slice none 0 0] 26)) S n (d + 1) := hrs.step ((Below.refl _ _).alloc (Nat.le_refl _) _)
    have hg2 : w.grownBy ((w.setCell ⟨S.g, 3, none⟩ (.int .i64 ((d : Int) + 1))).alloc (.cells #[.int .i64 0, .int .i64 0, .int .i64 0, .int .i64 0, .slice none 0 0, .slice none 0 0] 26)) (some S.g) := grown_trans (grown_set _ _ _) (grown_below ((Below.refl _ _).alloc (Nat.le_refl _) _) _)
    have d2 := hr2.c2
    have HX := Lib.hid (hread (by omega) _ hr2 hg2 hdry)
    have hzs : (w.setCell ⟨S.g, 3, none⟩ (.int .i64 ((d : Int) + 1))).heap.size = w.heap.size := by simp
    have hrb2 : ((w.setCell ⟨S.g, 3, none⟩ (.int .i64 ((d : Int) + 1))).alloc (.cells #[.int .i64 0, .int .i64 0, .int .i64 0, .int .i64 0, .slice none 0 0, .slice none 0 0] 26)).heap[w.heap.size]? = some (.cells #[.int .i64 0, .int .i64 0, .int .i64 0, .int .i64 0, .slice none 0 0, .slice none 0 0] 26 (0, 0)) := by
      rw [← hzs]; exact heap_alloc_new _ _
    have hz2 : w.heap.size < ((w.setCell ⟨S.g, 3, none⟩ (.int .i64 ((d : Int) + 1))).alloc (.cells #[.int .i64 0, .int .i64 0, .int .i64 0, .int .i64 0, .slice none 0 0, .slice none 0 0] 26)).heap.size := by simp
    have HG2 := Lib.hid hg2
    have HRB2 := Lib.hid hrb2
    have HZ2 := Lib.hid hz2
    clear h hr1 hb1 hrb hread e1 hr2 hg2 hrb2 hz2 hrs hzs
    go_enter Tryz.func43, Tryz.ntmps43
    go_wp2_with fail
    generalize ((w.setCell ⟨S.g, 3, none⟩ (.int .i64 ((d : Int) + 1))).alloc (.cells #[.int .i64 0, .int .i64 0, .int .i64 0, .int .i64 0, .slice none 0 0, .slice none 0 0] 26)) = w2 at *
    refine HX.out.mono ?_
    rintro e w3 (⟨x, n1, v, ho, rfl, ⟨y, rfl, hyl, hyo, hyp⟩, hr3, hg3⟩ | ⟨ch, ho, rfl, hg3⟩)
    · have hz23 := hg3.size
      have hgw2 := HG2.out.size
      have hzw2 := HZ2.out
      have hl3 := hr3.lt
      have hn1 : ¬ S.g = w3.heap.size := by omega
      have hn2 : ¬ w3.heap.size = S.g := by omega
      have hn3 : ¬ w.heap.size = w3.heap.size := by omega
      have hn4 : ¬ w3.heap.size = w.heap.size := by omega
      have hn5 : ¬ S.g = w.heap.size := by omega
      have hn6 : ¬ w.heap.size = S.g := by omega
      have hrb3 := (hg3.block w.heap.size hzw2 (fun e => by have := Option.some.inj e; omega)).trans HRB2.out
      have hr4 : Rd (w3.setCell ⟨S.g, 3, none⟩ (.int .i64 (d : Int))) S n1 d := hr3.setDeep d (by omega) _ rfl
      have hrb4 : (w3.setCell ⟨S.g, 3, none⟩ (.int .i64 (d : Int))).heap[w.heap.size]? = some (.cells #[.int .i64 0, .int .i64 0, .int .i64 0, .int .i64 0, .slice none 0 0, .slice none 0 0] 26 (0, 0)) := (Below.heap_setCell _ _ _ _ (by simp only; omega)).trans hrb3
      have hr3a := hr3.step ((Below.refl w3.heap.size w3).alloc (Nat.le_refl _) (.cells #[.int .i64 y.h.k, .int .i64 y.h.m, .int .i64 y.h.f, .int .i64 y.h.t, .slice y.h.np y.h.nn y.h.nc, .slice y.h.kp y.h.kn y.h.kc] 26))
      have c3 : (w3.alloc (.cells #[.int .i64 y.h.k, .int .i64 y.h.m, .int .i64 y.h.f, .int .i64 y.h.t, .slice y.h.np y.h.nn y.h.nc, .slice y.h.kp y.h.kn y.h.kc] 26)).cell? ⟨S.g, 3, none⟩ = some (.int .i64 ((d : Int) + 1)) := by
        rw [hr3a.c3]; congr 2
      have f3 := hr3a.free 3
      have hBA : Below ((w3.setCell ⟨S.g, 3, none⟩ (.int .i64 (d : Int)))).heap.size (w3.setCell ⟨S.g, 3, none⟩ (.int .i64 (d : Int))) ((w3.setCell ⟨S.g, 3, none⟩ (.int .i64 (d : Int))).alloc (.cells #[.int .i64 y.h.k, .int .i64 y.h.m, .int .i64 y.h.f, .int .i64 y.h.t, .slice y.h.np y.h.nn y.h.nc, .slice y.h.kp y.h.kn y.h.kc] 26)) := (Below.refl _ _).alloc (Nat.le_refl _) _
      have hrA : Rd ((w3.setCell ⟨S.g, 3, none⟩ (.int .i64 (d : Int))).alloc (.cells #[.int .i64 y.h.k, .int .i64 y.h.m, .int .i64 y.h.f, .int .i64 y.h.t, .slice y.h.np y.h.nn y.h.nc, .slice y.h.kp y.h.kn y.h.kc] 26)) S n1 d := hr4.step hBA
      have hrb4a := (hBA.block w.heap.size (Array.getElem?_eq_some_iff.1 hrb4).1).trans hrb4
      obtain ⟨hsix, hgs⟩ := six_set hrb4a (.int .i64 y.h.k) (.int .i64 y.h.m) (.int .i64 y.h.f) (.int .i64 y.h.t) (.slice y.h.np y.h.nn y.h.nc) (.slice y.h.kp y.h.kn y.h.kc)
      have hg4 : w.grownBy ((w3.setCell ⟨S.g, 3, none⟩ (.int .i64 (d : Int))).alloc (.cells #[.int .i64 y.h.k, .int .i64 y.h.m, .int .i64 y.h.f, .int .i64 y.h.t, .slice y.h.np y.h.nn y.h.nc, .slice y.h.kp y.h.kn y.h.kc] 26)) (some S.g) := grown_trans (grown_trans (grown_trans HG2.out hg3) (grown_set _ _ _)) (grown_below hBA _)
      have hg5 : w.grownBy ((((((((w3.setCell ⟨S.g, 3, none⟩ (.int .i64 (d : Int))).alloc (.cells #[.int .i64 y.h.k, .int .i64 y.h.m, .int .i64 y.h.f, .int .i64 y.h.t, .slice y.h.np y.h.nn y.h.nc, .slice y.h.kp y.h.kn y.h.kc] 26)).setCell ⟨w.heap.size, 0, none⟩ (.int .i64 y.h.k)).setCell ⟨w.heap.size, 1, none⟩ (.int .i64 y.h.m)).setCell ⟨w.heap.size, 2, none⟩ (.int .i64 y.h.f)).setCell ⟨w.heap.size, 3, none⟩ (.int .i64 y.h.t)).setCell ⟨w.heap.size, 4, none⟩ (.slice y.h.np y.h.nn y.h.nc)).setCell ⟨w.heap.size, 5, none⟩ (.slice y.h.kp y.h.kn y.h.kc)) (some S.g) := grown_own hg4 hgs (fun q hq => by have := Option.some.inj hq; omega)
      have hr5 : Rd ((((((((w3.setCell ⟨S.g, 3, none⟩ (.int .i64 (d : Int))).alloc (.cells #[.int .i64 y.h.k, .int .i64 y.h.m, .int .i64 y.h.f, .int .i64 y.h.t, .slice y.h.np y.h.nn y.h.nc, .slice y.h.kp y.h.kn y.h.kc] 26)).setCell ⟨w.heap.size, 0, none⟩ (.int .i64 y.h.k)).setCell ⟨w.heap.size, 1, none⟩ (.int .i64 y.h.m)).setCell ⟨w.heap.size, 2, none⟩ (.int .i64 y.h.f)).setCell ⟨w.heap.size, 3, none⟩ (.int .i64 y.h.t)).setCell ⟨w.heap.size, 4, none⟩ (.slice y.h.np y.h.nn y.h.nc)).setCell ⟨w.heap.size, 5, none⟩ (.slice y.h.kp y.h.kn y.h.kc)) S n1 d := hrA.grow hgs (fun e => by have := Option.some.inj e; omega) (fun e => by have := Option.some.inj e; omega)
      have hyl4 : y.Lies (w3.setCell ⟨S.g, 3, none⟩ (.int .i64 (d : Int))) := Br.Lies.kept (P := fun q => w2.heap.size ≤ q) y (by simp) (fun q hq _ => Below.heap_setCell _ _ _ _ (by simp only; omega)) hyo hyl
      have hyl5 : y.Lies ((((((((w3.setCell ⟨S.g, 3, none⟩ (.int .i64 (d : Int))).alloc (.cells #[.int .i64 y.h.k, .int .i64 y.h.m, .int .i64 y.h.f, .int .i64 y.h.t, .slice y.h.np y.h.nn y.h.nc, .slice y.h.kp y.h.kn y.h.kc] 26)).setCell ⟨w.heap.size, 0, none⟩ (.int .i64 y.h.k)).setCell ⟨w.heap.size, 1, none⟩ (.int .i64 y.h.m)).setCell ⟨w.heap.size, 2, none⟩ (.int .i64 y.h.f)).setCell ⟨w.heap.size, 3, none⟩ (.int .i64 y.h.t)).setCell ⟨w.heap.size, 4, none⟩ (.slice y.h.np y.h.nn y.h.nc)).setCell ⟨w.heap.size, 5, none⟩ (.slice y.h.kp y.h.kn y.h.kc)) := Br.Lies.kept (P := fun q => w2.heap.size ≤ q) y hgs.size (fun q hq hlt => hgs.block q hlt (fun e => by have := Option.some.inj e; omega)) hyo (hyl4.step _ hBA)
      have d0 := Lib.cell_of_heap hsix
      have hcell := Lib.cell_of_heap hrb4a
      have r0 := hcell 0
      have r1 := hcell 1
      have r2 := hcell 2
      have r3 := hcell 3
      have r4 := hcell 4
      have r5 := hcell 5
      simp only [List.getElem?_toArray, List.getElem?_cons_zero, List.getElem?_cons_succ] at r0 r1 r2 r3 r4 r5
      have hfr : ∀ o, ((w3.setCell ⟨S.g, 3, none⟩ (.int .i64 (d : Int))).alloc (.cells #[.int .i64 y.h.k, .int .i64 y.h.m, .int .i64 y.h.f, .int .i64 y.h.t, .slice y.h.np y.h.nn y.h.nc, .slice y.h.kp y.h.kn y.h.kc] 26)).frozen? ⟨w.heap.size, o, none⟩ = false := fun o => by simp [World.frozen?, hrb4a]
      have g0 := hfr 0
      have g1 := hfr 1
      have g2 := hfr 2
      have g3 := hfr 3
      have g4 := hfr 4
      have g5 := hfr 5
      have HD := Lib.hid d0
      have HFIN : Hid (Ends S d w o (RB w) (.returned y.h.val) ((((((((w3.setCell ⟨S.g, 3, none⟩ (.int .i64 (d : Int))).alloc (.cells #[.int .i64 y.h.k, .int .i64 y.h.m, .int .i64 y.h.f, .int .i64 y.h.t, .slice y.h.np y.h.nn y.h.nc, .slice y.h.kp y.h.kn y.h.kc] 26)).setCell ⟨w.heap.size, 0, none⟩ (.int .i64 y.h.k)).setCell ⟨w.heap.size, 1, none⟩ (.int .i64 y.h.m)).setCell ⟨w.heap.size, 2, none⟩ (.int .i64 y.h.f)).setCell ⟨w.heap.size, 3, none⟩ (.int .i64 y.h.t)).setCell ⟨w.heap.size, 4, none⟩ (.slice y.h.np y.h.nn y.h.nc)).setCell ⟨w.heap.size, 5, none⟩ (.slice y.h.kp y.h.kn y.h.kc))) := Lib.hid (Or.inl ⟨x, n1, _, ho, rfl, ⟨y, rfl, hyl5, hyo.mono (fun q hq => by omega) _, hyp⟩, hr5, hg5⟩)
      clear hz23 hgw2 hzw2 hrb3 hr4 hrb4 hsix hgs hg4 hg5 hr5 hyl4 hyl5 hBA hrA d0 hr3a hrb4a hcell hfr ho hyl hyo hyp hr3 hg3
      go_wp2_with fail
      have dd := HD.out
      have d0 := dd 0
      have d1 := dd 1
      have d2 := dd 2
      have d3 := dd 3
      have d4 := dd 4
      have d5 := dd 5
      simp only [List.getElem?_toArray, List.getElem?_cons_zero, List.getElem?_cons_succ] at d0 d1 d2 d3 d4 d5
      refine bodyPost_ret (by simp [results, Tryz.results43, go_sem, d0, d1, d2, d3, d4, d5, Result.andThen]; try rfl) rfl ?_
      exact HFIN.out
    · exact ⟨rfl, Or.inr ⟨ch, ho, rfl, grown_trans HG2.out hg3⟩⟩
end Go.Proofs.YtkjgkchdkeggoaaGreatDoor
