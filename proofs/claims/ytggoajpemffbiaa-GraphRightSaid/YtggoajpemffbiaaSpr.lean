/-
  Spare of a graph without links, walked.
-/
import Derived.Test.YtggoajpemffbiaaRgp
import Derived.Test.YtggoajpemffbiaaLnw
namespace Go.Proofs.Ytggoajpemffbiaa
open Go.RowKit
set_option maxRecDepth 20000
set_option linter.unusedVariables false
set_option linter.unusedSimpArgs false

/-- The edges of the first k that lead to another one. -/
def needL (E : List Int) : Nat → List Int
  | 0 => []
  | k + 1 => match E[k]? with
    | some x => bif x == (k : Int) then needL E k else addI (needL E k) x
    | none => needL E k
theorem needL_same {E : List Int} {k : Nat} {x : Int} (h : E[k]? = some x) (hx : x = (k : Int)) : needL E (k + 1) = needL E k := by
  show (match E[k]? with | some x => bif x == (k : Int) then needL E k else addI (needL E k) x | none => needL E k) = _
  rw [h]; simp [hx]
theorem needL_other {E : List Int} {k : Nat} {x : Int} (h : E[k]? = some x) (hx : x ≠ (k : Int)) : needL E (k + 1) = addI (needL E k) x := by
  show (match E[k]? with | some x => bif x == (k : Int) then needL E k else addI (needL E k) x | none => needL E k) = _
  rw [h]
  have : (x == (k : Int)) = false := by simpa using hx
  simp [this]
def sparB (E : List Int) (O : List Oc) (i : Nat) : Bool := match O[i]? with
  | some o => o.d && !inI (needL E E.length) (i : Int)
  | none => false
set_option maxHeartbeats 4000000 in
theorem spare1_any (i : Nat) (o : Oc) (bx bo mb : Nat) (q : Option Addr) (n c : Nat) (O : List Oc) (ks : List Int) (w : World) (hb : w.cell? ⟨bx, 0, none⟩ = some (.map (some mb))) (hg : w.cell? ⟨bo, 0, none⟩ = some (.slice q n c)) (hO : OS w q n c O) (hi : O[i]? = some o) (hn : n ≤ 1000) (hS : SetI w mb ks) :
    Calls Try.prog 29 #[.int .i64 i, .pointer (some ⟨bx, 0, none⟩), .pointer (some ⟨bo, 0, none⟩)] w fun e w' => e = .returned (.bool (o.d && !inI ks (i : Int))) ∧ Below w.heap.size w w' := by
  have hin : i < n := by have := (List.getElem?_eq_some_iff.1 hi).1; have := hO.1; omega
  obtain ⟨hxx, h0 | ⟨g, oo, rfl, hc, hgl, hat⟩⟩ := hO
  · omega
  have c4 := (hat i o hi).c4
  have r1 : (0 : Int) ≤ (i : Int) := by omega
  have r2 : (i : Int) < (n : Int) := by omega
  have hbo : bo < w.heap.size := World.block_lt_of_cell? w _ hg
  have HS := Lib.hid hS
  have HXW := Lib.hid (W64.nat (i := i) (by omega))
  have HB := Lib.hid ((Below.refl w.heap.size w).alloc (Nat.le_refl _) (.cells #[] 51))
  clear hxx hat hi hS
  generalize hb1 : inI ks (i : Int) = b
  have HQ := Lib.hid hb1
  generalize o.d = d at *
  clear hb1
  cases d <;> (
    go_enter Try.func29, Try.ntmps29
    go_wp2_with (at_lookup; refine wpList_setlook _ rfl _ _ rfl mb ks rfl HS.out (i : Int) HXW.out rfl ?_; rw [HQ.out])
    go_ret
    exact ⟨rfl, HB.out⟩)
set_option maxHeartbeats 8000000 in
theorem spare_any (g : Gr) (E : List Int) (V : List Int) (qo : Option Addr) (no co : Nat) (O : List Oc) (w : World) (h : GrIn w g E [] V) (hO : OS w qo no co O) (hn : g.ne ≤ 1000) (hno : no ≤ 1000) :
    Calls Try.prog 19 #[g.v, .slice qo no co] w fun e w' => ∃ v, e = .returned v ∧ OwnI w' w.heap.size v (selN (sparB E O) O.length) ∧ Below w.heap.size w w' := by
  have hmm := @run_makeMap Try.prog
  have hnl : g.nl = 0 := h.l.1
  obtain ⟨qe, ne, ce, ql, nl, cl, qv, nv, cv⟩ := g
  simp only [Gr.v] at *
  subst hnl
  have b1 : Below w.heap.size w (w.alloc (.cells #[.slice qe ne ce, .slice ql 0 cl, .slice qv nv cv] 25)) := (Below.refl _ _).alloc (Nat.le_refl _) _
  have e1 := heap_new w (.cells #[.slice qe ne ce, .slice ql 0 cl, .slice qv nv cv] 25)
  have z1 : (w.alloc (.cells #[.slice qe ne ce, .slice ql 0 cl, .slice qv nv cv] 25)).heap.size = w.heap.size + 1 := by simp
  have b2 : Below w.heap.size w ((w.alloc (.cells #[.slice qe ne ce, .slice ql 0 cl, .slice qv nv cv] 25)).alloc (.cells #[.slice qo no co] 26)) := b1.alloc b1.size _
  have e2 := heap_new (w.alloc (.cells #[.slice qe ne ce, .slice ql 0 cl, .slice qv nv cv] 25)) (.cells #[.slice qo no co] 26)
  rw [z1] at e2
  have e3 := heap_step e1 ((Below.refl _ _).alloc (Nat.le_refl _) (.cells #[.slice qo no co] 26))
  have HIE : Hid (IS w qe ne ce E) := Lib.hid h.e
  have HIL : Hid (PS w ql 0 cl []) := Lib.hid h.l
  have HWE : Hid (∀ x ∈ E, W64 x) := Lib.hid h.we
  have HLE : Hid (ne = E.length) := Lib.hid h.e.1
  have HIO := Lib.hid hO
  have HLO := Lib.hid hO.1
  have HB0 := Lib.hid b2
  clear h hO b1 e1 z1 b2
  go_enter Try.func19, Try.ntmps19
  go_upto_region 1 with fail
  generalize (w.alloc (.cells #[.slice qe ne ce, .slice ql 0 cl, .slice qv nv cv] 25)).alloc (.cells #[.slice qo no co] 26) = W2 at *
  obtain ⟨C, hC⟩ : ∃ C, C = w.heap.size + 1 := ⟨_, rfl⟩
  obtain ⟨B, hB⟩ : ∃ B, B = w.heap.size := ⟨_, rfl⟩
  rw [← hC] at e2 ⊢
  rw [← hB] at e3 ⊢
  clear hB hC
  obtain ⟨hs3, hx3, hb3⟩ := boxmap_new W2
  have c0 : ((W2.alloc (.map #[] 0)).alloc (.cells #[.map (some W2.heap.size)] 48)).cell? ⟨B, 0, none⟩ = some (.slice qe ne ce) := (cellH (heap_step e3 hb3) 0).trans rfl
  have HXB := Lib.hid (heap_step e3 hb3)
  have HXC := Lib.hid (heap_step e2 hb3)
  have HS3 := Lib.hid hs3
  have HX3 := Lib.hid hx3
  have HB3 := Lib.hid (HB0.out.trans (hb3.mono HB0.out.size))
  have hz3 : W2.heap.size + 1 < ((W2.alloc (.map #[] 0)).alloc (.cells #[.map (some W2.heap.size)] 48)).heap.size := heap_lt hx3
  clear hs3 hx3 hb3 e2 e3
  go_upto_region 2 with fail
  generalize (W2.alloc (.map #[] 0)).alloc (.cells #[.map (some W2.heap.size)] 48) = W3 at *
  obtain ⟨X, hX⟩ : ∃ X, X = W2.heap.size + 1 := ⟨_, rfl⟩
  obtain ⟨M, hM⟩ : ∃ M, M = W2.heap.size := ⟨_, rfl⟩
  have hMX : M ≠ X := by omega
  have hXM : X ≠ M := by omega
  have HMW : Hid (w.heap.size ≤ M) := Lib.hid (by have := HB0.out.size; omega)
  rw [← hX]
  have HX4 : Hid (W3.heap[X]? = some (.cells #[.map (some M)] 48 (0, 0))) := Lib.hid (by rw [hX, hM]; exact HX3.out)
  have HS4 : Hid (SetI W3 M []) := Lib.hid (by rw [hM]; exact HS3.out)
  clear HX3 HS3 hX hM hz3
  go_wp2_with fail
  clear c0
  have hBM : Hid (∀ b cs T, W3.heap[b]? = some (.cells cs T (0, 0)) → b ≠ M) := Lib.hid fun b cs T hb => by
    rintro rfl; exact MapI.nocell HS4.out hb
  go_loopw [14] (fun i wr => ∃ k : Nat, k ≤ ne ∧ i = .int .i64 k ∧ Hid (SetI wr M (needL E k)) ∧ Hid (wr.heap[X]? = some (.cells #[.map (some M)] 48 (0, 0))) ∧ Hid (wr.heap[B]? = some (.cells #[.slice qe ne ce, .slice ql 0 cl, .slice qv nv cv] 25 (0, 0))) ∧ Hid (wr.heap[C]? = some (.cells #[.slice qo no co] 26 (0, 0))) ∧ Hid (Below w.heap.size w wr)) (fun i _ => ne - (intOf i).toNat)
  case atStart => exact ⟨0, by omega, rfl, HS4, HX4, HXB, HXC, HB3⟩
  case round =>
    obtain ⟨k, hk, rfl, HS, HX, HBb, HCb, HBw⟩ := hrel
    clear HS4 HX4 HXB HXC HB3
    have hneB : B ≠ M := by rintro rfl; exact MapI.nocell HS.out HBb.out
    have hneC : C ≠ M := by rintro rfl; exact MapI.nocell HS.out HCb.out
    by_cases hlt : k < ne
    · obtain ⟨hxx, h0 | ⟨ge, oe, rfl, hce, hge, hate⟩⟩ := HIE.out
      · omega
      clear hxx
      obtain ⟨x, hx⟩ : ∃ x, E[k]? = some x := ⟨_, List.getElem?_eq_getElem (by have := HLE.out; omega)⟩
      have c0 := (HBw.out.cell (p := ⟨ge, oe + k, none⟩) hge).trans (hate k x hx)
      have b0 : wr.cell? ⟨X, 0, none⟩ = some (.map (some M)) := (cellH HX.out 0).trans rfl
      have r1 : (0 : Int) ≤ (k : Int) := by omega
      have r2 : (k : Int) < (ne : Int) := by omega
      have HXW := Lib.hid (HWE.out x (List.mem_of_getElem? hx))
      by_cases hxk : x = (k : Int)
      · have HS2 : Hid (SetI wr M (needL E (k + 1))) := Lib.hid (by rw [needL_same hx hxk]; exact HS.out)
        have hb : (x != (k : Int)) = false := by simp [hxk]
        clear hx hate hxk
        go_wp2_with fail
        go_roundw
        case rel => exact ⟨k + 1, by omega, by go_num, HS2, HX, HBb, HCb, HBw⟩
        case measure => simp [intOf]; omega
      · have hb : (x != (k : Int)) = true := by simpa using hxk
        have HNL : Hid (needL E (k + 1) = addI (needL E k) x) := Lib.hid (needL_other hx hxk)
        clear hx hate hxk
        go_wp2_with (at_mapUpdate; refine wpList_setupd _ rfl _ _ _ rfl M (needL E k) rfl HS.out x HXW.out rfl rfl ?_; intro w4 hs4 hw4; have HS2 : Hid (SetI w4 M (needL E (k + 1))) := Lib.hid (by rw [HNL.out]; exact hs4); have HX2 := Lib.hid ((hw4.blk X hXM).trans HX.out); have HBb2 := Lib.hid ((hw4.blk B hneB).trans HBb.out); have HCb2 := Lib.hid ((hw4.blk C hneC).trans HCb.out); have HBw2 := Lib.hid (hw4.bel _ _ HMW.out HBw.out); clear hs4 hw4)
        go_roundw
        case rel => exact ⟨k + 1, by omega, by go_num, HS2, HX2, HBb2, HCb2, HBw2⟩
        case measure => simp [intOf]; omega
    · have hkn : k = ne := by omega
      have HSF : Hid (SetI wr M (needL E E.length)) := Lib.hid (by have := HS.out; rwa [hkn, HLE.out] at this)
      have d1 : wr.cell? ⟨B, 1, none⟩ = some (.slice ql 0 cl) := (cellH HBb.out 1).trans rfl
      have HLN := Lib.hid (links_any ql 0 cl [] wr (HIL.out.step HBw.out) (by omega))
      clear hkn HS
      go_wp2_with fail
      refine HLN.out.mono ?_
      rintro z w6 ⟨v6, rfl, ho6, hb6⟩
      obtain ⟨q6, n6, c6, rfl, hp6⟩ := ho6.ps
      have hn6 : n6 = 0 := hp6.1
      subst hn6
      have HS6 := Lib.hid (HSF.out.step hb6)
      have HX6 := Lib.hid (heap_step HX.out hb6)
      have HC6 := Lib.hid (heap_step HCb.out hb6)
      have HB6 := Lib.hid (HBw.out.trans (hb6.mono HBw.out.size))
      clear ho6 hb6 hp6 d1
      have d6 : w6.cell? ⟨C, 0, none⟩ = some (.slice qo no co) := (cellH HC6.out 0).trans rfl
      have HT := Lib.hid (those_any 29 #[.pointer (some ⟨X, 0, none⟩), .pointer (some ⟨C, 0, none⟩)] (sparB E O) no no w6 (by omega) (.inl rfl) cf29 (fun j W hj hW => by
        obtain ⟨o, ho⟩ : ∃ o, O[j]? = some o := ⟨_, List.getElem?_eq_getElem (by have := HLO.out; omega)⟩
        have e : sparB E O j = (o.d && !inI (needL E E.length) (j : Int)) := by unfold sparB; rw [ho]
        rw [e]
        exact spare1_any j o X C M qo no co O (needL E E.length) W ((cellH (heap_step HX6.out hW) 0).trans rfl) ((cellH (heap_step HC6.out hW) 0).trans rfl) ((HIO.out.step HB6.out).step hW) ho hno (HS6.out.step hW)))
      go_wp2_with fail
      obtain ⟨wo, hwo⟩ : ∃ wo, wo = w6 := ⟨_, rfl⟩
      go_loopw [30] (fun i wr => i = .int .i64 0 ∧ wr = w6) (fun _ _ => 0)
      case atStart => exact ⟨rfl, rfl⟩
      case round =>
        obtain ⟨rfl, rfl⟩ := hrel
        go_wp2_with (go_at_call 23; refine HT.out.mono ?_; rintro e w7 ⟨v, rfl, ho7, hb7⟩; have HO7 := Lib.hid (ho7.base (b' := w.heap.size) HB6.out.size); have HB7 := Lib.hid (HB6.out.trans (hb7.mono HB6.out.size)); clear ho7 hb7)
        go_ret
        exact ⟨_, rfl, by have := HO7.out; rwa [HLO.out] at this, HB7.out⟩
end Go.Proofs.Ytggoajpemffbiaa
