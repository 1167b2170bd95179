/-
  The reader's str: what lies within one part.
-/
import Derived.Test.YtkjgkchdkeggoaaGreatDoorBareStr
import Derived.Test.YtkjgkchdkeggoaaGreatDoorKeep
namespace Go.Proofs.YtkjgkchdkeggoaaGreatDoor
open Go.RowKit
set_option maxRecDepth 20000
set_option linter.unusedVariables false
set_option linter.unusedSimpArgs false

set_option maxHeartbeats 1000000 in
theorem strC_any (S : Src) (F : Nat) (rec : Nt → Nat → Nat → Out Pb) (d : Nat) (hs : Said S rec d) (hF0 : F ≤ 1000000000) (bx : Nat) (n : Nat) (w : World) (h : Rd w S n d) (hx0 : w.heap[bx]? = some (.cells #[.pointer (some ⟨S.g, 0, none⟩)] 56 (0, 0))) (hg0 : bx ≠ S.g) (hdry : strO S F rec d n ≠ .dry) :
    Calls Tryz.prog 134 #[.int .i64 (n : Int), .pointer (some ⟨bx, 0, none⟩)] w fun e w' => Ends S d w (strO S F rec d n) (RB w) e w' := by
  have hgl := h.lt
  have hgwl := h.row
  have hbd := h.bound
  have ST0 := Lib.hid (St.init h [(bx, Obj.cells #[.pointer (some ⟨S.g, 0, none⟩)] 56 (0, 0))] (fun p hp => by
    obtain rfl := List.mem_singleton.1 hp
    exact ⟨hx0, hg0⟩))
  have HS := Lib.hid hs
  obtain ⟨tot, htot⟩ : ∃ tot, tot = strO S F rec d n := ⟨_, rfl⟩
  have HD : Hid (tot ≠ .dry) := Lib.hid (by rw [htot]; exact hdry)
  rw [← htot]
  unfold strO at htot
  have EQ0 := Lib.hid htot
  clear h hdry htot hs hx0 hg0
  go_enter Tryz.func134, Tryz.ntmps134
  have qx0 := ST0.out.xc (b := bx) (v := .pointer (some ⟨S.g, 0, none⟩)) (T := 56) (by simp)
  have HC := Lib.hid (bareStr_any S F rec d HS.out hF0 ((n)) _ ST0.out.rd (bind_dry (by rw [← EQ0.out]; exact HD.out)))
  go_wp2_with fail
  refine HC.out.mono ?_
  rintro e w2 (⟨x2, n2, v2, hpo, rfl, ⟨y2, hv, hyl, hyo, rfl⟩, hr, hg⟩ | ⟨ch, ho, rfl, hg⟩)
  rotate_left
  · exact ⟨rfl, Or.inr ⟨ch, by rw [EQ0.out]; exact pan_bind (ho), rfl, ST0.out.pan hg⟩⟩
  have e3 := EQ0.out
  rw [show _ = Out.ok _ _ from hpo, bind_ok] at e3
  have EQ3 := Lib.hid e3
  clear e3 EQ0
  have HY2 := Lib.hid (And.intro hyl (hyo.mono (fun q hq => Nat.le_trans ST0.out.size hq) _))
  simp only [Hd.val] at hv
  subst hv
  have ST4 := Lib.hid (ST0.out.grow hr hg)
  clear hr hg ST0 hyl hyo hpo HC
  clear qx0
  have qx0 := ST4.out.xc (b := bx) (v := .pointer (some ⟨S.g, 0, none⟩)) (T := 56) (by simp)
  have HA : Hid (Br.On (fun q => q ≠ w2.heap.size) y2) := Lib.hid (on_below HY2.out.1)
  have hbx := ST4.out.box HY2.out.1 HY2.out.2
  have hsz := ST4.out.size
  have hlt := ST4.out.lt
  have hn1 : ¬ S.g = w2.heap.size := by omega
  have hn2 : ¬ w2.heap.size = S.g := by omega
  have hrb := heap_alloc_new w2 boxZ
  have qq := Lib.cell_of_heap hrb
  have r0 := qq 0
  have r1 := qq 1
  have r2 := qq 2
  have r3 := qq 3
  have r4 := qq 4
  have r5 := qq 5
  simp only [List.getElem?_toArray, List.getElem?_cons_zero, List.getElem?_cons_succ, boxZ] at r0 r1 r2 r3 r4 r5
  have fz : ∀ i, (w2.alloc boxZ).frozen? ⟨w2.heap.size, i, none⟩ = false := fun i => cells_frozen hrb i
  have f0 := fz 0
  have f1 := fz 1
  have f2 := fz 2
  have f3 := fz 3
  have f4 := fz 4
  have f5 := fz 5
  have hm0 : ¬ bx = w2.heap.size := by have := ST4.out.xlt (b := bx) (v := .pointer (some ⟨S.g, 0, none⟩)) (T := 56) (by simp); omega
  have hw0 : ¬ w2.heap.size = bx := fun e => hm0 e.symm
  have qa0 := (ST4.out.below ((Below.refl w2.heap.size w2).alloc (Nat.le_refl _) boxZ)).xc (b := bx) (v := .pointer (some ⟨S.g, 0, none⟩)) (T := 56) (by simp)
  have qb0 := hbx.xc (b := bx) (v := .pointer (some ⟨S.g, 0, none⟩)) (T := 56) (by simp)
  have STx := Lib.hid hbx
  clear hbx hrb qq fz hsz hlt ST4 qx0 HY2
  rename_i K1 hK1 K0 hK0
  show K0 _ _
  refine hK0 _ _ ?_
  refine wpList_step fun K2 hK2 => ?_
  rw [if_pos (wanted_none rfl)]
  unfold Oper.wp
  have hrun : ∀ a : Act, (execOp a.eval { dst := some 4, op := Op.alloc 26, type := 0, pos := "modules.go:8", after := #[], guard := none }).run Tryz.prog w2 = .ok (.value (.pointer (some ⟨w2.heap.size, 0, none⟩))) (w2.alloc boxZ) := fun a => by
    generalize a.eval = ρ
    simp [go_sem]
    try rfl
  rw [hrun, Oper.upon_value]
  refine hK2 _ _ ?_
  clear hrun hK2 hK0
  simp only [Act.put, List.setIfInBounds_toArray, List.set_cons_zero, List.set_cons_succ] at *
  generalize hb5 : w2.heap.size = b5 at *
  generalize w2.alloc boxZ = A5 at *
  clear hb5
  have HIL := Lib.hid STx.out.rd.here
  have HCL := Lib.hid (rcolon_any S n2 d _ STx.out.rd)
  go_wp2_with fail
  refine HCL.out.mono ?_
  rintro e w6 ⟨rfl, hr, hg⟩
  have ST7 := Lib.hid (STx.out.grow hr hg)
  clear hr hg STx HCL
  clear r0 r1 r2 r3 r4 r5 f0 f1 f2 f3 f4 f5 hn1 hn2 hm0 hw0 qa0 qb0
  go_wp2_with fail
  go_loopg [5] F (fun gk v5 wr => ∃ (y : Br) (i mk : Nat), v5 = .int .i64 (mk : Int) ∧ mk = (S.colon i).1 ∧ Hid (tot = sealL S rec d n gk y.pb i) ∧ Hid (St S (w.alloc boxZ) d ⟨[(bx, Obj.cells #[.pointer (some ⟨S.g, 0, none⟩)] 56 (0, 0))], [(b5, y)], [], []⟩ wr (S.colon i).2) ∧ Hid (Br.On (fun q => q ≠ b5) y) ∧ Hid (i < S.ts.length))
  case atStart => exact ⟨y2, n2, _, rfl, rfl, EQ3, ST7, HA, Lib.hid HIL.out⟩
  case round =>
    obtain ⟨y, i, mk, rfl, hmk, HL, STr, HAr, HIr⟩ := hrel
    have hcn := (colon_fin STr.out.rd.good HIr.out)
    rw [← hmk] at hcn
    have hcn3 := hcn.2.2.1
    have hcn4 := hcn.2.2.2
    clear hcn
    cases gk with
    | zero => exact absurd HL.out (by intro e; exact HD.out e)
    | succ gk =>
    have hls := HL.out
    simp only [sealL] at hls
    rw [← hmk] at hls
    have EQr := Lib.hid hls
    clear hls HL hmk
    cases hm0 : mk == 0
    · have e8 := EQr.out
      simp only [hm0, cond_false] at e8
      have EQ8 := Lib.hid e8
      clear e8 EQr
      have hm : mk ≠ 0 := by simpa using hm0
      have hcn2 := hcn3 hm
      rw [hcn2] at STr
      have hmi : ((mk : Int) != 0) = true := by simpa using hm
      have hmi2 : ¬ (mk : Int) = 0 := by omega
      clear hcn3 hcn4
      have qx0 := STr.out.xc (b := bx) (v := .pointer (some ⟨S.g, 0, none⟩)) (T := 56) (by simp)
      have HC := Lib.hid (HS.out.sig ((i + 1)) _ STr.out.rd (bind_dry (by rw [← EQ8.out]; exact HD.out)))
      go_wp2_with fail
      refine HC.out.mono ?_
      rintro e w9 (⟨x9, n9, v9, hpo, rfl, ⟨y9, hv, hyl, hyo, rfl⟩, hr, hg⟩ | ⟨ch, ho, rfl, hg⟩)
      rotate_left
      · exact ⟨rfl, Or.inr ⟨ch, by rw [EQ8.out]; exact pan_bind (ho), rfl, STr.out.pan hg⟩⟩
      have hlow := (Array.getElem?_eq_some_iff.1 (STr.out.b (b5, y) (by simp)).1).1
      simp only at hlow
      have HRs := Lib.hid (Br.On.mono (Q := fun q => q ≠ b5) (fun q hq => by omega) _ hyo)
      clear hlow
      have e10 := EQ8.out
      rw [show _ = Out.ok _ _ from hpo, bind_ok] at e10
      have EQ10 := Lib.hid e10
      clear e10 EQ8
      have HY9 := Lib.hid (And.intro hyl (hyo.mono (fun q hq => Nat.le_trans STr.out.size hq) _))
      simp only [Hd.val] at hv
      subst hv
      have ST11 := Lib.hid (STr.out.grow hr hg)
      clear hr hg STr hyl hyo hpo HC
      clear qx0
      have qx0 := ST11.out.xc (b := bx) (v := .pointer (some ⟨S.g, 0, none⟩)) (T := 56) (by simp)
      have hbx := ST11.out.box HY9.out.1 HY9.out.2
      have hsz := ST11.out.size
      have hlt := ST11.out.lt
      have hn1 : ¬ S.g = w9.heap.size := by omega
      have hn2 : ¬ w9.heap.size = S.g := by omega
      have hrb := heap_alloc_new w9 boxZ
      have qq := Lib.cell_of_heap hrb
      have r0 := qq 0
      have r1 := qq 1
      have r2 := qq 2
      have r3 := qq 3
      have r4 := qq 4
      have r5 := qq 5
      simp only [List.getElem?_toArray, List.getElem?_cons_zero, List.getElem?_cons_succ, boxZ] at r0 r1 r2 r3 r4 r5
      have fz : ∀ i, (w9.alloc boxZ).frozen? ⟨w9.heap.size, i, none⟩ = false := fun i => cells_frozen hrb i
      have f0 := fz 0
      have f1 := fz 1
      have f2 := fz 2
      have f3 := fz 3
      have f4 := fz 4
      have f5 := fz 5
      have hm0 : ¬ bx = w9.heap.size := by have := ST11.out.xlt (b := bx) (v := .pointer (some ⟨S.g, 0, none⟩)) (T := 56) (by simp); omega
      have hw0 : ¬ w9.heap.size = bx := fun e => hm0 e.symm
      have qa0 := (ST11.out.below ((Below.refl w9.heap.size w9).alloc (Nat.le_refl _) boxZ)).xc (b := bx) (v := .pointer (some ⟨S.g, 0, none⟩)) (T := 56) (by simp)
      have qb0 := hbx.xc (b := bx) (v := .pointer (some ⟨S.g, 0, none⟩)) (T := 56) (by simp)
      have hbm0 : ¬ b5 = w9.heap.size := by have := (Array.getElem?_eq_some_iff.1 (ST11.out.b (b5, y) (by simp)).1).1; simp only at this; omega
      have hbn0 : ¬ w9.heap.size = b5 := fun e => hbm0 e.symm
      have qk0 := Lib.cell_of_heap ((ST11.out.below ((Below.refl w9.heap.size w9).alloc (Nat.le_refl _) boxZ)).b (b5, y) (by simp)).1
      have k00 := qk0 0
      have k01 := qk0 1
      have k02 := qk0 2
      have k03 := qk0 3
      have k04 := qk0 4
      have k05 := qk0 5
      simp only [List.getElem?_toArray, List.getElem?_cons_zero, List.getElem?_cons_succ] at k00 k01 k02 k03 k04 k05
      clear qk0
      have STx := Lib.hid hbx
      clear hbx hrb qq fz hsz hlt ST11 qx0 HY9
      rename_i K1 hK1 K0 hK0
      show K0 _ _
      refine hK0 _ _ ?_
      refine wpList_step fun K2 hK2 => ?_
      rw [if_pos (wanted_none rfl)]
      unfold Oper.wp
      have hrun : ∀ a : Act, (execOp a.eval { dst := some 6, op := Op.alloc 26, type := 0, pos := "modules.go:10", after := #[], guard := none }).run Tryz.prog w9 = .ok (.value (.pointer (some ⟨w9.heap.size, 0, none⟩))) (w9.alloc boxZ) := fun a => by
        generalize a.eval = ρ
        simp [go_sem]
        try rfl
      rw [hrun, Oper.upon_value]
      refine hK2 _ _ ?_
      clear hrun hK2 hK0
      simp only [Act.put, List.setIfInBounds_toArray, List.set_cons_zero, List.set_cons_succ] at *
      generalize hb12 : w9.heap.size = b12 at *
      generalize w9.alloc boxZ = A12 at *
      clear hb12
      have HIn := Lib.hid STx.out.rd.here
      have hgb : A12.heap.size ≠ b5 := by have := (Array.getElem?_eq_some_iff.1 (STx.out.b (b5, y) (by simp)).1).1; simp at this; omega
      have hys13 : ∀ u ∈ [y, y9], u.Lies (sixC A12 b12 y9.h) ∧ u.On (fun q => (w.alloc boxZ).heap.size ≤ q) := (List.forall_mem_cons.2 ⟨(STx.out.b (b5, y) (by simp)).2.2, (List.forall_mem_cons.2 ⟨(STx.out.b (b12, y9) (by simp)).2.2, (fun _ h => nomatch h)⟩)⟩)
      have ST13 : Hid (St S _ d _ ((sixC A12 b12 y9.h).alloc (.cells #[.int .i64 y.h.k, .int .i64 y.h.m, .int .i64 y.h.f, .int .i64 y.h.t, .slice y.h.np y.h.nn y.h.nc, .slice y.h.kp y.h.kn y.h.kc, .int .i64 y9.h.k, .int .i64 y9.h.m, .int .i64 y9.h.f, .int .i64 y9.h.t, .slice y9.h.np y9.h.nn y9.h.nc, .slice y9.h.kp y9.h.kn y9.h.kc] 26)) _) := Lib.hid (STx.out.newK [y, y9] (by simp) hys13)
      clear hys13
      rw [show (sixC A12 b12 y9.h).heap.size = A12.heap.size by simp] at ST13
      have HB := Lib.hid (rbranch_any S (n9) d 18 (n : Nat) none 0 0 (some ⟨A12.heap.size, 0, none⟩) 2 2 _ ST13.out.rd)
      go_wp2_with fail
      refine HB.out.mono ?_
      rintro e w14 ⟨rfl, hb⟩
      have ST15 := Lib.hid (ST13.out.below hb)
      clear hb ST13 HB
      clear r0 r1 r2 r3 r4 r5 f0 f1 f2 f3 f4 f5 hn1 hn2 hm0 hw0 qa0 qb0 hbm0 hbn0 k00 k01 k02 k03 k04 k05
      have qx0 := ST15.out.xc (b := bx) (v := .pointer (some ⟨S.g, 0, none⟩)) (T := 56) (by simp)
      have HB := Lib.hid (rmarked_any (mk : Int) 18 0 (n : Nat) (n9 : Nat) none 0 0 (some ⟨A12.heap.size, 0, none⟩) 2 2 w14)
      go_wp2_with fail
      refine HB.out.mono ?_
      rintro e w16 ⟨rfl, hb⟩
      have ST17 := Lib.hid (ST15.out.below hb)
      clear hb ST15 HB
      clear qx0
      have qx0 := ST17.out.xc (b := bx) (v := .pointer (some ⟨S.g, 0, none⟩)) (T := 56) (by simp)
      have hz := ST17.out.node_apart (b := b5) (y := y) (by simp) 18 (mk : Int) (n : Nat) (n9 : Nat) St.noN (ST17.out.ks (.slice (some ⟨A12.heap.size, 0, none⟩) 2 2, [y, y9]) (by simp)) (by omega) (List.forall_mem_cons.2 ⟨HAr.out, (List.forall_mem_cons.2 ⟨HRs.out, (fun _ h => nomatch h)⟩)⟩)
      have STz : Hid (St S _ d ⟨_, [(b5, (Br.mk ⟨18, (mk : Int), ((n : Nat) : Int), ((n9 : Nat) : Int), none, 0, 0, List.map (fun x : Nat => (x : Int)) [], (some ⟨A12.heap.size, 0, none⟩), 2, 2⟩ [y, y9]))], [], []⟩ ((((((w16.setCell ⟨b5, 0, none⟩ (.int .i64 18)).setCell ⟨b5, 1, none⟩ (.int .i64 (mk : Int))).setCell ⟨b5, 2, none⟩ (.int .i64 (n : Int))).setCell ⟨b5, 3, none⟩ (.int .i64 (n9 : Int))).setCell ⟨b5, 4, none⟩ (.slice none 0 0)).setCell ⟨b5, 5, none⟩ (.slice (some ⟨A12.heap.size, 0, none⟩) 2 2)) _) := Lib.hid (ST17.out.rebox (b := b5) (y := y) (by simp) hz.1 hz.2)
      have HAz : Hid (Br.On (fun q => q ≠ b5) (Br.mk ⟨18, (mk : Int), ((n : Nat) : Int), ((n9 : Nat) : Int), none, 0, 0, List.map (fun x : Nat => (x : Int)) [], (some ⟨A12.heap.size, 0, none⟩), 2, 2⟩ [y, y9])) := Lib.hid (Br.On.mono (Q := fun q => q ≠ b5) (fun q hq => hq.2) _ hz.2)
      have hbk := (ST17.out.b (b5, y) (by simp)).1
      have qq := Lib.cell_of_heap hbk
      have r0 := qq 0
      have r1 := qq 1
      have r2 := qq 2
      have r3 := qq 3
      have r4 := qq 4
      have r5 := qq 5
      simp only [List.getElem?_toArray, List.getElem?_cons_zero, List.getElem?_cons_succ] at r0 r1 r2 r3 r4 r5
      have f0 := cells_frozen hbk 0
      have f1 := cells_frozen hbk 1
      have f2 := cells_frozen hbk 2
      have f3 := cells_frozen hbk 3
      have f4 := cells_frozen hbk 4
      have f5 := cells_frozen hbk 5
      simp only at f0 f1 f2 f3 f4 f5
      clear hbk qq hz
      have hmx : ¬ bx = b5 := by
        have h1 := (ST17.out.x (bx, Obj.cells #[.pointer (some ⟨S.g, 0, none⟩)] 56 (0, 0)) (by simp)).2.1
        have h2 := (ST17.out.b (b5, y) (by simp)).2.1
        simp only at h1 h2
        omega
      have hmy : ¬ b5 = bx := fun e => hmx e.symm
      have qz := STz.out.xc (b := bx) (v := .pointer (some ⟨S.g, 0, none⟩)) (T := 56) (by simp)
      have HCL := Lib.hid (rcolon_any S n9 d _ STz.out.rd)
      clear ST17
      go_wp2_with fail
      refine HCL.out.mono ?_
      rintro e w18 ⟨rfl, hr, hg⟩
      have STe := Lib.hid (STz.out.grow hr hg)
      clear hr hg STz HCL
      go_wp2_with fail
      go_roundg gk
      case measure => omega
      case rel => exact ⟨(Br.mk ⟨18, (mk : Int), ((n : Nat) : Int), ((n9 : Nat) : Int), none, 0, 0, List.map (fun x : Nat => (x : Int)) [], (some ⟨A12.heap.size, 0, none⟩), 2, 2⟩ [y, y9]), n9, _, rfl, rfl, EQ10, STe, HAz, HIn⟩
    · have e8 := EQr.out
      simp only [hm0, cond_true] at e8
      have EQ8 := Lib.hid e8
      clear e8 EQr
      have hm : mk = 0 := by simpa using hm0
      subst hm
      have hcn2 := hcn4 rfl
      rw [hcn2] at STr
      clear hcn3 hcn4
      have qq := Lib.cell_of_heap (STr.out.b (b5, y) (by simp)).1
      have l00 := qq 0
      have l01 := qq 1
      have l02 := qq 2
      have l03 := qq 3
      have l04 := qq 4
      have l05 := qq 5
      simp only [List.getElem?_toArray, List.getElem?_cons_zero, List.getElem?_cons_succ] at l00 l01 l02 l03 l04 l05
      clear qq
      have HYb := Lib.hid (STr.out.b (b5, y) (by simp)).2.2
      have FIN := Lib.hid (STr.out.finY hgl hgwl HYb.out.1 HYb.out.2 EQ8.out)
      clear STr EQ8 HYb
      have c0 := FIN.out.c0
      have c1 := FIN.out.c1
      have c2 := FIN.out.c2
      have c3 := FIN.out.c3
      have c4 := FIN.out.c4
      have c5 := FIN.out.c5
      have f0 := FIN.out.fz 0
      have f1 := FIN.out.fz 1
      have f2 := FIN.out.fz 2
      have f3 := FIN.out.fz 3
      have f4 := FIN.out.fz 4
      have f5 := FIN.out.fz 5
      go_wp2_with fail
      obtain ⟨_, _, _, _, _, _, _, d0, d1, d2, d3, d4, d5, hfin⟩ := FIN.out
      refine bodyPost_ret (by simp [results, Tryz.results134, go_sem, d0, d1, d2, d3, d4, d5, Result.andThen]; try rfl) rfl ?_
      exact hfin
end Go.Proofs.YtkjgkchdkeggoaaGreatDoor
