/-
  What a function that hands a branch back does last; the reader's atomicTy.
-/
import Derived.Test.YtkjgkchdkeggoaaGreatDoorRow
namespace Go.Proofs.YtkjgkchdkeggoaaGreatDoor
open Go.RowKit
set_option maxRecDepth 20000
set_option linter.unusedVariables false
set_option linter.unusedSimpArgs false

/-- A result's box, still empty. -/
abbrev boxZ : Obj := (.cells #[.int .i64 0, .int .i64 0, .int .i64 0, .int .i64 0, .slice none 0 0, .slice none 0 0] 26)
/-- What is known where a branch is laid into the result's box. -/
structure FinB (S : Src) (d : Nat) (w wr : World) (o : Out Pb) (k m f t : Int) (np : Option Addr) (nn nc : Nat) (kp : Option Addr) (kn kc : Nat) : Prop where
  c0 : wr.cell? ⟨w.heap.size, 0, none⟩ = some (.int .i64 0)
  c1 : wr.cell? ⟨w.heap.size, 1, none⟩ = some (.int .i64 0)
  c2 : wr.cell? ⟨w.heap.size, 2, none⟩ = some (.int .i64 0)
  c3 : wr.cell? ⟨w.heap.size, 3, none⟩ = some (.int .i64 0)
  c4 : wr.cell? ⟨w.heap.size, 4, none⟩ = some (.slice none 0 0)
  c5 : wr.cell? ⟨w.heap.size, 5, none⟩ = some (.slice none 0 0)
  fz : ∀ i, wr.frozen? ⟨w.heap.size, i, none⟩ = false
  d0 : ((((((wr.setCell ⟨w.heap.size, 0, none⟩ (.int .i64 k)).setCell ⟨w.heap.size, 1, none⟩ (.int .i64 m)).setCell ⟨w.heap.size, 2, none⟩ (.int .i64 f)).setCell ⟨w.heap.size, 3, none⟩ (.int .i64 t)).setCell ⟨w.heap.size, 4, none⟩ (.slice np nn nc)).setCell ⟨w.heap.size, 5, none⟩ (.slice kp kn kc)).cell? ⟨w.heap.size, 0, none⟩ = some (.int .i64 k)
  d1 : ((((((wr.setCell ⟨w.heap.size, 0, none⟩ (.int .i64 k)).setCell ⟨w.heap.size, 1, none⟩ (.int .i64 m)).setCell ⟨w.heap.size, 2, none⟩ (.int .i64 f)).setCell ⟨w.heap.size, 3, none⟩ (.int .i64 t)).setCell ⟨w.heap.size, 4, none⟩ (.slice np nn nc)).setCell ⟨w.heap.size, 5, none⟩ (.slice kp kn kc)).cell? ⟨w.heap.size, 1, none⟩ = some (.int .i64 m)
  d2 : ((((((wr.setCell ⟨w.heap.size, 0, none⟩ (.int .i64 k)).setCell ⟨w.heap.size, 1, none⟩ (.int .i64 m)).setCell ⟨w.heap.size, 2, none⟩ (.int .i64 f)).setCell ⟨w.heap.size, 3, none⟩ (.int .i64 t)).setCell ⟨w.heap.size, 4, none⟩ (.slice np nn nc)).setCell ⟨w.heap.size, 5, none⟩ (.slice kp kn kc)).cell? ⟨w.heap.size, 2, none⟩ = some (.int .i64 f)
  d3 : ((((((wr.setCell ⟨w.heap.size, 0, none⟩ (.int .i64 k)).setCell ⟨w.heap.size, 1, none⟩ (.int .i64 m)).setCell ⟨w.heap.size, 2, none⟩ (.int .i64 f)).setCell ⟨w.heap.size, 3, none⟩ (.int .i64 t)).setCell ⟨w.heap.size, 4, none⟩ (.slice np nn nc)).setCell ⟨w.heap.size, 5, none⟩ (.slice kp kn kc)).cell? ⟨w.heap.size, 3, none⟩ = some (.int .i64 t)
  d4 : ((((((wr.setCell ⟨w.heap.size, 0, none⟩ (.int .i64 k)).setCell ⟨w.heap.size, 1, none⟩ (.int .i64 m)).setCell ⟨w.heap.size, 2, none⟩ (.int .i64 f)).setCell ⟨w.heap.size, 3, none⟩ (.int .i64 t)).setCell ⟨w.heap.size, 4, none⟩ (.slice np nn nc)).setCell ⟨w.heap.size, 5, none⟩ (.slice kp kn kc)).cell? ⟨w.heap.size, 4, none⟩ = some (.slice np nn nc)
  d5 : ((((((wr.setCell ⟨w.heap.size, 0, none⟩ (.int .i64 k)).setCell ⟨w.heap.size, 1, none⟩ (.int .i64 m)).setCell ⟨w.heap.size, 2, none⟩ (.int .i64 f)).setCell ⟨w.heap.size, 3, none⟩ (.int .i64 t)).setCell ⟨w.heap.size, 4, none⟩ (.slice np nn nc)).setCell ⟨w.heap.size, 5, none⟩ (.slice kp kn kc)).cell? ⟨w.heap.size, 5, none⟩ = some (.slice kp kn kc)
  fin : Ends S d w o (RB w) (.returned (.agg #[.int .i64 k, .int .i64 m, .int .i64 f, .int .i64 t, .slice np nn nc, .slice kp kn kc])) ((((((wr.setCell ⟨w.heap.size, 0, none⟩ (.int .i64 k)).setCell ⟨w.heap.size, 1, none⟩ (.int .i64 m)).setCell ⟨w.heap.size, 2, none⟩ (.int .i64 f)).setCell ⟨w.heap.size, 3, none⟩ (.int .i64 t)).setCell ⟨w.heap.size, 4, none⟩ (.slice np nn nc)).setCell ⟨w.heap.size, 5, none⟩ (.slice kp kn kc))
theorem fin_box {S : Src} {n d : Nat} {w wr : World} {o : Out Pb} (b : Pb) (k m f t : Int) (np : Option Addr) (nn nc : Nat) (ns : List Int) (kp : Option Addr) (kn kc : Nat) (ys : List Br) (hr : Rd wr S n d) (hg : (w.alloc boxZ).grownBy wr (some S.g)) (hgl : S.g < w.heap.size) (hgw : S.gw < w.heap.size)
    (ho : o = .ok b n) (hyl : Br.Lies wr (.mk ⟨k, m, f, t, np, nn, nc, ns, kp, kn, kc⟩ ys)) (hyo : Br.On (fun q => w.heap.size + 1 ≤ q) (.mk ⟨k, m, f, t, np, nn, nc, ns, kp, kn, kc⟩ ys)) (hyp : Br.pb (.mk ⟨k, m, f, t, np, nn, nc, ns, kp, kn, kc⟩ ys) = b) : FinB S d w wr o k m f t np nn nc kp kn kc := by
  have hrb := (hg.block w.heap.size (by simp) (fun e => by have := Option.some.inj e; omega)).trans (heap_alloc_new w boxZ)
  obtain ⟨hsix, hgs⟩ := six_set hrb (.int .i64 k) (.int .i64 m) (.int .i64 f) (.int .i64 t) (.slice np nn nc) (.slice kp kn kc)
  have hcell := Lib.cell_of_heap hrb
  have hcell2 := Lib.cell_of_heap hsix
  have hg1 : w.grownBy wr (some S.g) := grown_trans (grown_below ((Below.refl _ _).alloc (Nat.le_refl _) _) _) hg
  refine ⟨hcell 0, hcell 1, hcell 2, hcell 3, hcell 4, hcell 5, fun i => by simp [World.frozen?, hrb], hcell2 0, hcell2 1, hcell2 2, hcell2 3, hcell2 4, hcell2 5, Or.inl ⟨b, n, _, ho, rfl, ⟨_, rfl, ?_, hyo.mono (fun q hq => by omega) _, hyp⟩, ?_, ?_⟩⟩
  · exact Br.Lies.kept (P := fun q => w.heap.size + 1 ≤ q) _ hgs.size (fun q hq hlt => hgs.block q hlt (fun e => by have := Option.some.inj e; omega)) hyo hyl
  · exact hr.grow hgs (fun e => by have := Option.some.inj e; omega) (fun e => by have := Option.some.inj e; omega)
  · exact grown_own hg1 hgs (fun q hq => by have := Option.some.inj hq; omega)
/-- A branch without names or kids. -/
theorem leaf_lies (w : World) (k m f t : Int) : Br.Lies w (.mk ⟨k, m, f, t, none, 0, 0, [], none, 0, 0⟩ []) := by
  rw [lies_iff]
  exact ⟨⟨rfl, .inl rfl⟩, ⟨rfl, .inl rfl⟩, fun x hx => by cases hx⟩
theorem leaf_on (P : Nat → Prop) (k m f t : Int) : Br.On P (.mk ⟨k, m, f, t, none, 0, 0, [], none, 0, 0⟩ []) := by
  rw [on_iff]
  exact ⟨fun a h => absurd rfl h, fun a h => absurd rfl h, fun x hx => by cases hx⟩
/-- Names and kids in rows of the call's own. -/
theorem node_lies {w w0 w1 : World} {np : Option Addr} {nn nc : Nat} {l : List Nat} {kp : Option Addr} {kn kc : Nat} {ys : List Br} {N : Nat} (k m f t : Int) (hn : w.ownsRow N 3 1 (.slice np nn nc) l.length (l.map mkN)) (hk : w.ownsRow N 26 6 (.slice kp kn kc) ys.length (cellsK ys)) (hK : Kids N (.slice kp kn kc) w ys) :
    Br.Lies w (.mk ⟨k, m, f, t, np, nn, nc, l.map (fun x : Nat => (x : Int)), kp, kn, kc⟩ ys) ∧ Br.On (fun q => N ≤ q) (.mk ⟨k, m, f, t, np, nn, nc, l.map (fun x : Nat => (x : Int)), kp, kn, kc⟩ ys) := by
  have e : l.map mkN = (l.map (fun x : Nat => (x : Int))).map mkI := by simp [Function.comp_def]
  have hn' := hn
  rw [e] at hn'
  obtain ⟨p, c, hv, hin⟩ := in_of_row hn' (by simp)
  injection hv with h1 h2 h3
  subst h1 h2 h3
  obtain ⟨p', c', hv', hkin⟩ := kids_of_own hk rfl
  injection hv' with h1 h2 h3
  subst h1 h2 h3
  refine ⟨(lies_iff _ _).2 ⟨hin, hkin, fun x hx => (hK x hx).1⟩, (on_iff _ _).2 ⟨fun a _ ha => ?_, fun a _ ha => ?_, fun x hx => (hK x hx).2.mono (fun q hq => hq.1) _⟩⟩
  · simp only [Br.h] at ha; subst ha; exact (hn.lt _ rfl).1
  · simp only [Br.h] at ha; subst ha; exact (hk.lt _ rfl).1
theorem kids_none {w : World} {N : Nat} : w.ownsRow N 26 6 (.slice none 0 0) ([] : List Br).length (cellsK []) ∧ Kids N (.slice none 0 0) w [] := ⟨World.ownsRow_nil _ _ _ _, fun y hy => by cases hy⟩
theorem names_none {w : World} {N : Nat} : w.ownsRow N 3 1 (.slice none 0 0) ([] : List Nat).length (([] : List Nat).map mkN) := World.ownsRow_nil _ _ _ _

theorem pick1_ne {l : List Pb} (h : ∀ b, l ≠ [b]) (f : Pb → Out Pb) (g : Out Pb) : pick1 l f g = g := by
  match l, h with
  | [], _ => rfl
  | [b], h => exact absurd rfl (h b)
  | a :: b :: r, _ => rfl
theorem bind_ok {α β : Type} {a : α} {n : Nat} {f : α → Nat → Out β} : (Out.ok a n).bind f = f a n := rfl
/-- What the parser's own calls come to, within d parts. -/
structure Said (S : Src) (rec : Nt → Nat → Nat → Out Pb) (d : Nat) : Prop where
  ty : ∀ k w, Rd w S k d → rec .ty d k ≠ .dry → Calls Tryz.prog 31 #[.pointer (some ⟨S.g, 0, none⟩)] w fun e w' => Ends S d w (rec .ty d k) (RB w) e w'
  exp : ∀ k w, Rd w S k d → rec .exp d k ≠ .dry → Calls Tryz.prog 32 #[.pointer (some ⟨S.g, 0, none⟩)] w fun e w' => Ends S d w (rec .exp d k) (RB w) e w'
  pat : ∀ k w, Rd w S k d → rec .pat d k ≠ .dry → Calls Tryz.prog 41 #[.pointer (some ⟨S.g, 0, none⟩)] w fun e w' => Ends S d w (rec .pat d k) (RB w) e w'
  sig : ∀ k w, Rd w S k d → rec .sig d k ≠ .dry → Calls Tryz.prog 42 #[.pointer (some ⟨S.g, 0, none⟩)] w fun e w' => Ends S d w (rec .sig d k) (RB w) e w'
  str : ∀ k w, Rd w S k d → rec .str d k ≠ .dry → Calls Tryz.prog 125 #[.pointer (some ⟨S.g, 0, none⟩)] w fun e w' => Ends S d w (rec .str d k) (RB w) e w'
  dec : ∀ (a k : Nat) w, Rd w S k d → declares S 2 k = true → rec (.dec a) d k ≠ .dry → Calls Tryz.prog 60 #[.pointer (some ⟨S.g, 0, none⟩), .int .i64 (a : Int)] w fun e w' => Ends S d w (rec (.dec a) d k) (RB w) e w'
theorem cfTy (args : Array Value) (w : World) : Sem.run Tryz.prog (callFunc 31 args) w = .ok (.enter 31 args) w := cf_enter Tryz.func31 (by kernel_rfl) (by kernel_rfl) args w

set_option maxHeartbeats 4000000 in
theorem atomicTy_any (S : Src) (F : Nat) (rec : Nt → Nat → Nat → Out Pb) (d : Nat) (hs : Said S rec d) (hF : F ≤ 1000000000) (n : Nat) (w : World) (h : Rd w S n d) (hdry : atomicTyO S F rec d n ≠ .dry) :
    Calls Tryz.prog 97 #[.pointer (some ⟨S.g, 0, none⟩)] w fun e w' => Ends S d w (atomicTyO S F rec d n) (RB w) e w' := by
  have hgl := h.lt
  have hgwl := h.row
  have hbd := h.bound
  have hb1 : Below w.heap.size w (w.alloc boxZ) := (Below.refl w.heap.size w).alloc (Nat.le_refl _) _
  have hr1 := h.step hb1
  have HR1 := Lib.hid hr1
  have q2 := hr1.c2
  have HK1 := Lib.hid (rkind_any S n d _ hr1)
  unfold atomicTyO at hdry ⊢
  have HS := Lib.hid hs
  have HMK := Lib.hid (fun (w' : World) (hr : Rd w' S n d) => hr.moreK)
  clear hr1 hb1 h hs
  cases h8 : (S.kd n == 8)
  · rw [h8] at hdry
    simp only [cond_false] at hdry ⊢
    cases hp : S.is n [40]
    · rw [hp] at hdry
      simp only [cond_false] at hdry ⊢
      have HDRY := Lib.hid hdry
      clear hdry
      go_enter Tryz.func97, Tryz.ntmps97
      go_wp2_with fail
      refine HK1.out.mono ?_
      rintro e w2 ⟨rfl, hb2⟩
      have hr2 := HR1.out.step hb2
      have HG2 := Lib.hid (grown_below hb2 (some S.g))
      have HP := Lib.hid (rpass_any S n d ⟨#[40]⟩ w2 hr2 (by simp))
      simp only at HP
      rw [hp] at HP
      clear hr2 hb2
      go_wp2_with fail
      refine HP.out.mono ?_
      rintro e w3 ⟨rfl, hr3, hg3⟩
      have HG3 := Lib.hid (grown_trans HG2.out hg3)
      have HT := Lib.hid (rtypePath_any S n d w3 hr3 (bind_dry HDRY.out))
      clear hr3 hg3
      go_wp2_with fail
      refine HT.out.mono ?_
      rintro e w4 (⟨p, n4, v, hpo, rfl, hv, hr4, hg4⟩ | ⟨ch, ho, rfl, hg4⟩)
      · obtain ⟨np, nn, nc, rfl⟩ := hv.form
        have HG4 := Lib.hid (grown_trans HG3.out hg4)
        have HV := Lib.hid (own_base (base' := w.heap.size + 1) hv (by have := HG3.out.size; simpa using this))
        have HPO := Lib.hid hpo
        have HR4 := Lib.hid hr4
        have HB := Lib.hid (rbranch_any S n4 d 42 n np nn nc none 0 0 w4 hr4)
        clear hpo hv hr4 hg4
        go_wp2_with fail
        refine HB.out.mono ?_
        rintro e w5 ⟨rfl, hb5⟩
        have HL := node_lies (w0 := w) (w1 := w) 42 0 n n4 (ownsRow_below HV.out hb5) kids_none.1 kids_none.2
        have FIN := Lib.hid (fin_box (o := (S.typePath n).bind fun p n1 => Out.ok (node 42 n n1 p []) n1) (node 42 n n4 p []) 42 0 n n4 np nn nc _ none 0 0 [] (HR4.out.step hb5) (grown_trans HG4.out (grown_below hb5 _)) hgl hgwl (by rw [HPO.out]; rfl) HL.1 HL.2 (by simp [Br.pb, pbs, node]))
        clear HL hb5
        have c0 := FIN.out.c0
        have c1 := FIN.out.c1
        have c2 := FIN.out.c2
        have c3 := FIN.out.c3
        have c4 := FIN.out.c4
        have c5 := FIN.out.c5
        have f0 := FIN.out.fz 0
        have f1 := FIN.out.fz 1
        have f2 := FIN.out.fz 2
        have f3 := FIN.out.fz 3
        have f4 := FIN.out.fz 4
        have f5 := FIN.out.fz 5
        go_wp2_with fail
        obtain ⟨_, _, _, _, _, _, _, d0, d1, d2, d3, d4, d5, hfin⟩ := FIN.out
        refine bodyPost_ret (by simp [results, Tryz.results97, go_sem, d0, d1, d2, d3, d4, d5, Result.andThen]; try rfl) rfl ?_
        exact hfin
      · exact ⟨rfl, Or.inr ⟨ch, pan_bind ho, rfl, grown_trans (grown_below ((Below.refl _ _).alloc (Nat.le_refl _) _) _) (grown_trans HG3.out hg4)⟩⟩
    · rw [hp] at hdry
      simp only [cond_true] at hdry ⊢
      have HDRY := Lib.hid hdry
      clear hdry
      go_enter Tryz.func97, Tryz.ntmps97
      go_wp2_with fail
      refine HK1.out.mono ?_
      rintro e w2 ⟨rfl, hb2⟩
      have hr2 := HR1.out.step hb2
      have HG2 := Lib.hid (grown_below hb2 (some S.g))
      have HP := Lib.hid (rpass_any S n d ⟨#[40]⟩ w2 hr2 (by simp))
      simp only at HP
      rw [hp] at HP
      clear hr2 hb2
      go_wp2_with fail
      refine HP.out.mono ?_
      rintro e w3 ⟨rfl, hr3, hg3⟩
      have HG3 := Lib.hid (grown_trans HG2.out hg3)
      have HW := Lib.hid (rrow_any 31 #[] cfTy S F (n + 1) d ⟨#[44]⟩ (rec .ty d) w3 hr3 (by simp) hF (fun k w' hr _ hnd => HS.out.ty k w' hr hnd) (bind_dry HDRY.out))
      clear hr3 hg3
      go_wp2_with fail
      refine HW.out.mono ?_
      rintro e w4 (⟨l, n4, v, hpo, rfl, ⟨ys, hown, hK, hmap⟩, hr4, hg4⟩ | ⟨ch, ho, rfl, hg4⟩)
      · obtain ⟨kp, kc, rfl⟩ := own_form hown
        have hz3 : w.heap.size + 1 ≤ w3.heap.size := by have := HG3.out.size; simpa using this
        have HG4 := Lib.hid (grown_trans HG3.out hg4)
        have HO4 := Lib.hid (own_base (base' := w.heap.size + 1) hown hz3)
        have HK4 : Hid (Kids (w.heap.size + 1) (.slice kp ys.length kc) w4 ys) := Lib.hid (fun y hy => ⟨(hK y hy).1, (hK y hy).2.mono (fun q hq => ⟨by omega, hq.2⟩) _⟩)
        have HPO := Lib.hid hpo
        have HMAP := Lib.hid hmap
        have HND := Lib.hid (bind_dry (o := S.need [41] n4) (by rw [hpo] at HDRY; exact HDRY.out))
        have HN := Lib.hid (rneed_any S n4 d ⟨#[41]⟩ w4 hr4 (by simp))
        clear hpo hown hK hmap hr4 hg4
        go_wp2_with fail
        refine HN.out.mono ?_
        rintro e w5 (⟨u, n5, v, hpo5, rfl, hv, hr5, hg5⟩ | ⟨ch, ho, rfl, hg5⟩)
        · obtain rfl : v = .tuple #[] := hv
          have HO5 := Lib.hid (HO4.out.kept hg5 (Or.inr (fun e => by have := (HO4.out.lt _ e).1; omega)))
          have HK5 := Lib.hid (HK4.out.grow hg5 (by omega))
          have HG5 := Lib.hid (grown_trans HG4.out hg5)
          have HR5 := Lib.hid hr5
          have HPO5 := Lib.hid hpo5
          clear hpo5 hr5 hg5
          by_cases h1 : ys.length = 1
          · obtain ⟨y, rfl⟩ := List.length_eq_one_iff.1 h1
            obtain ⟨yh, yks⟩ := y
            obtain ⟨yk, ym, yf, yt, ynp, ynn, ync, yns, ykp, ykn, ykc⟩ := yh
            obtain ⟨gk, ck, hvk, _, hgk, _, _⟩ := own_pos HO5.out (by simp)
            injection hvk with hk1 hk2 hk3
            subst hk1 hk3
            have cell := fun j u hu => own_cell HO5.out j u hu
            have e0 := cell 0 _ rfl
            have e1 := cell 1 _ rfl
            have e2 := cell 2 _ rfl
            have e3 := cell 3 _ rfl
            have e4 := cell 4 _ rfl
            have e5 := cell 5 _ rfl
            simp only [Br.h] at e0 e1 e2 e3 e4 e5
            obtain ⟨hyl, hyo⟩ := HK5.out _ (List.mem_singleton.2 rfl)
            have FIN := Lib.hid (fin_box (o := (rowO S F [44] (rec .ty d) (n + 1)).bind fun l n1 => (S.need [41] n1).bind fun _ n2 => pick1 l (fun b => Out.ok b n2) ((S.typePath n2).bind fun p n3 => Out.ok (node 42 n n3 p l) n3)) _ yk ym yf yt ynp ynn ync yns ykp ykn ykc yks HR5.out HG5.out hgl hgwl (by rw [HPO.out, bind_ok, HPO5.out, bind_ok, ← HMAP.out]; rfl) hyl (hyo.mono (fun q hq => hq.1) _) rfl)
            clear cell hyl hyo h1
            have c0 := FIN.out.c0
            have c1 := FIN.out.c1
            have c2 := FIN.out.c2
            have c3 := FIN.out.c3
            have c4 := FIN.out.c4
            have c5 := FIN.out.c5
            have f0 := FIN.out.fz 0
            have f1 := FIN.out.fz 1
            have f2 := FIN.out.fz 2
            have f3 := FIN.out.fz 3
            have f4 := FIN.out.fz 4
            have f5 := FIN.out.fz 5
            go_wp2_with fail
            obtain ⟨_, _, _, _, _, _, _, d0, d1, d2, d3, d4, d5, hfin⟩ := FIN.out
            refine bodyPost_ret (by simp [results, Tryz.results97, go_sem, d0, d1, d2, d3, d4, d5, Result.andThen]; try rfl) rfl ?_
            exact hfin
          · have hln : ∀ b, l ≠ [b] := fun b e => h1 (by have := congrArg List.length (HMAP.out.trans e); simpa using this)
            have HTOT : Hid (((rowO S F [44] (rec .ty d) (n + 1)).bind fun l n1 => (S.need [41] n1).bind fun _ n2 => pick1 l (fun b => Out.ok b n2) ((S.typePath n2).bind fun p n3 => Out.ok (node 42 n n3 p l) n3)) = (S.typePath n5).bind fun p n3 => Out.ok (node 42 n n3 p l) n3) := Lib.hid (by
              rw [HPO.out, bind_ok, HPO5.out, bind_ok]
              exact pick1_ne hln _ _)
            have HT := Lib.hid (rtypePath_any S n5 d w5 HR5.out (bind_dry (by rw [← HTOT.out]; exact HDRY.out)))
            have h1i : ¬ ((ys.length : Nat) : Int) = 1 := by omega
            have hgk : ((ys.length : Int) == 1) = false := by rw [beq_eq_false_iff_ne]; exact h1i
            clear hln
            obtain ⟨nl, hnl⟩ : ∃ nl, nl = ys.length := ⟨_, rfl⟩
            have HNL := Lib.hid hnl
            rw [← hnl] at HO5 HK5 h1 h1i hgk ⊢
            clear hnl
            go_wp2_with fail
            refine HT.out.mono ?_
            rintro e w6 (⟨p, n6, v, hpo6, rfl, hv6, hr6, hg6⟩ | ⟨ch, ho, rfl, hg6⟩)
            · obtain ⟨np, nn, nc, rfl⟩ := hv6.form
              have HG6 := Lib.hid (grown_trans HG5.out hg6)
              have HV6 := Lib.hid (own_base (base' := w.heap.size + 1) hv6 (by have := HG5.out.size; simpa using this))
              have HO6 := Lib.hid (HO5.out.kept hg6 (Or.inr (fun e => by have := (HO5.out.lt _ e).1; omega)))
              have HK6 := Lib.hid (HK5.out.grow hg6 (by omega))
              have HR6 := Lib.hid hr6
              have HPO6 := Lib.hid hpo6
              have HB := Lib.hid (rbranch_any S n6 d 42 n np nn nc kp nl kc w6 hr6)
              clear hpo6 hv6 hr6 hg6
              go_wp2_with fail
              refine HB.out.mono ?_
              rintro e w7 ⟨rfl, hb7⟩
              have HL := node_lies (w0 := w) (w1 := w) 42 0 n n6 (ownsRow_below HV6.out hb7) (by rw [← HNL.out]; exact ownsRow_below HO6.out hb7) (HK6.out.step hb7)
              have FIN := Lib.hid (fin_box (o := (rowO S F [44] (rec .ty d) (n + 1)).bind fun l n1 => (S.need [41] n1).bind fun _ n2 => pick1 l (fun b => Out.ok b n2) ((S.typePath n2).bind fun p n3 => Out.ok (node 42 n n3 p l) n3)) (node 42 n n6 p l) 42 0 n n6 np nn nc _ kp nl kc ys (HR6.out.step hb7) (grown_trans HG6.out (grown_below hb7 _)) hgl hgwl (by rw [HTOT.out, HPO6.out]; rfl) HL.1 HL.2 (by rw [← HMAP.out]; simp [Br.pb, pbs_map, node]))
              clear HL hb7
              have c0 := FIN.out.c0
              have c1 := FIN.out.c1
              have c2 := FIN.out.c2
              have c3 := FIN.out.c3
              have c4 := FIN.out.c4
              have c5 := FIN.out.c5
              have f0 := FIN.out.fz 0
              have f1 := FIN.out.fz 1
              have f2 := FIN.out.fz 2
              have f3 := FIN.out.fz 3
              have f4 := FIN.out.fz 4
              have f5 := FIN.out.fz 5
              go_wp2_with fail
              obtain ⟨_, _, _, _, _, _, _, d0, d1, d2, d3, d4, d5, hfin⟩ := FIN.out
              refine bodyPost_ret (by simp [results, Tryz.results97, go_sem, d0, d1, d2, d3, d4, d5, Result.andThen]; try rfl) rfl ?_
              exact hfin
            · exact ⟨rfl, Or.inr ⟨ch, by rw [HTOT.out]; exact pan_bind ho, rfl, grown_trans (grown_below ((Below.refl _ _).alloc (Nat.le_refl _) _) _) (grown_trans HG5.out hg6)⟩⟩
        · exact ⟨rfl, Or.inr ⟨ch, by rw [HPO.out, bind_ok]; exact pan_bind ho, rfl, grown_trans (grown_below ((Below.refl _ _).alloc (Nat.le_refl _) _) _) (grown_trans HG4.out hg5)⟩⟩
      · exact ⟨rfl, Or.inr ⟨ch, pan_bind ho, rfl, grown_trans (grown_below ((Below.refl _ _).alloc (Nat.le_refl _) _) _) (grown_trans HG3.out hg4)⟩⟩
  · rw [h8] at hdry
    simp only [cond_true] at hdry ⊢
    have hk0 : S.kd n ≠ 0 := by intro e; rw [e] at h8; cases h8
    go_enter Tryz.func97, Tryz.ntmps97
    go_wp2_with fail
    refine HK1.out.mono ?_
    rintro e w2 ⟨rfl, hb2⟩
    have hr2 := HR1.out.step hb2
    have hmore := hr2.moreK hk0
    have HBU := Lib.hid (hr2.bump hmore)
    have d2 := hr2.c2
    have fz2 := hr2.free 2
    have HG2 := Lib.hid (grown_trans (grown_below hb2 (some S.g)) (grown_set S.g 2 (.int .i64 ((n : Int) + 1))))
    have HB := Lib.hid (rbranch_any S (n + 1) d 41 n none 0 0 none 0 0 _ HBU.out)
    clear hr2 hb2 hk0
    go_wp2_with fail
    refine HB.out.mono ?_
    rintro e w5 ⟨rfl, hb5⟩
    have FIN := Lib.hid (fin_box (o := Out.ok (node 41 n (n + 1) [] []) (n + 1)) (node 41 n (n + 1) [] []) 41 0 n ((n : Int) + 1) none 0 0 [] none 0 0 [] (HBU.out.step hb5) (grown_trans HG2.out (grown_below hb5 _)) hgl hgwl rfl (leaf_lies _ _ _ _ _) (leaf_on _ _ _ _ _) (by simp [Br.pb, pbs, node]))
    clear hb5 HBU d2 fz2
    have c0 := FIN.out.c0
    have c1 := FIN.out.c1
    have c2 := FIN.out.c2
    have c3 := FIN.out.c3
    have c4 := FIN.out.c4
    have c5 := FIN.out.c5
    have f0 := FIN.out.fz 0
    have f1 := FIN.out.fz 1
    have f2 := FIN.out.fz 2
    have f3 := FIN.out.fz 3
    have f4 := FIN.out.fz 4
    have f5 := FIN.out.fz 5
    go_wp2_with fail
    obtain ⟨_, _, _, _, _, _, _, d0, d1, d2, d3, d4, d5, hfin⟩ := FIN.out
    refine bodyPost_ret (by simp [results, Tryz.results97, go_sem, d0, d1, d2, d3, d4, d5, Result.andThen]; try rfl) rfl ?_
    exact hfin
end Go.Proofs.YtkjgkchdkeggoaaGreatDoor
